/- What the laws of chapter 8 draw of makers, locks and numbers. -/
import Derived.Test.YtbfnffecmglgfaaDrawLE
import Derived.Test.YtbfnffecmglgfaaSCntOp
namespace Go.Proofs.Ytbfnffecmglgfaa
open Go Go.RowKit

/-- what the draw of a wear and a tolerance answers -/
def Drawn2 (w : World) (B g : Nat) (A : Option Addr) (n c : Nat) (e : Ending) (w' : World) : Prop :=
  ∃ r z : Int, e = .returned (.tuple #[.int .i64 r, .int .i64 z]) ∧ Src w' B g A n c ∧ w.grownBy w' (some g)

set_option maxRecDepth 100000 in
set_option maxHeartbeats 4000000 in
theorem l08DrawNumbers_any (B g : Nat) (A : Option Addr) (n c : Nat) (w : World) (h : Src w B g A n c) :
    Calls Try.prog 122 #[.pointer (some ⟨g, 0, none⟩)] w (Drawn2 w B g A n c) := by
  have hg0 := h.lt
  go_enter Try.func122, Try.ntmps122
  go_wp2_with fail
  refine (l01Next_any B g A n c _ _ h (by omega)).mono ?_
  rintro e w1 ⟨y, rfl, y0, y1, h1, g1⟩
  have H1 := Lib.hid (h1.alloc (.cells ([0, 3, 6, 10, 14, 19, y].map (Value.int .i64)).toArray 2))
  have G1 := Lib.hid (grown_alloc g1 (.cells ([0, 3, 6, 10, 14, 19, y].map (Value.int .i64)).toArray 2))
  have hgl := h1.lt
  have I1 := Lib.hid (ints_new w1 [0, 3, 6, 10, 14, 19, y] 2)
  clear h1 g1
  go_wp2_with fail
  refine (l01Pick_any B g A n c _ _ _ [0, 3, 6, 10, 14, 19, y] _ H1.out I1.out (fun ad e => by injection e with e; subst e; show w1.heap.size ≠ g; omega) (by simp) (by simp)).mono ?_
  rintro e w2 ⟨r, rfl, _, h2, g2⟩
  have G2 := Lib.hid (grown_trans' G1.out g2)
  clear H1 G1 I1 g2
  go_wp2_with fail
  refine (l01Next_any B g A n c _ _ h2 (by omega)).mono ?_
  rintro e w3 ⟨z, rfl, _, _, h3, g3⟩
  have G3 := Lib.hid (grown_trans' G2.out g3)
  clear h2 G2 g3
  go_wp2_with fail
  refine (l01Next_any B g A n c _ _ h3 (by omega)).mono ?_
  rintro e w4 ⟨x, rfl, x0, x1, h4, g4⟩
  have G4 := Lib.hid (grown_trans' G3.out g4)
  have hg4 := h4.lt
  clear h3 G3 g4
  by_cases e0 : x = 0
  · have d0 : (x == 0) = true := by simpa using e0
    have H5 := Lib.hid (h4.alloc (.cells ([-1, 20].map (Value.int .i64)).toArray 2))
    have G5 := Lib.hid (grown_alloc G4.out (.cells ([-1, 20].map (Value.int .i64)).toArray 2))
    have I5 := Lib.hid (ints_new w4 [-1, 20] 2)
    clear h4 G4
    go_wp2_with fail
    refine (l01Pick_any B g A n c _ _ _ [-1, 20] _ H5.out I5.out (fun ad e => by injection e with e; subst e; show w4.heap.size ≠ g; omega) (by simp) (by simp)).mono ?_
    rintro e w6 ⟨r6, rfl, _, h6, g6⟩
    have G6 := grown_trans' G5.out g6
    go_wp2
    go_ret2
    exact ⟨_, _, rfl, h6, G6⟩
  have d0 : (x == 0) = false := by simpa using e0
  by_cases e1 : x = 1
  · have d1 : (x == 1) = true := by simpa using e1
    have H5 := Lib.hid (h4.alloc (.cells ([-1, 5].map (Value.int .i64)).toArray 2))
    have G5 := Lib.hid (grown_alloc G4.out (.cells ([-1, 5].map (Value.int .i64)).toArray 2))
    have I5 := Lib.hid (ints_new w4 [-1, 5] 2)
    clear h4 G4 e0
    go_wp2_with fail
    refine (l01Pick_any B g A n c _ _ _ [-1, 5] _ H5.out I5.out (fun ad e => by injection e with e; subst e; show w4.heap.size ≠ g; omega) (by simp) (by simp)).mono ?_
    rintro e w6 ⟨r6, rfl, _, h6, g6⟩
    have G6 := grown_trans' G5.out g6
    go_wp2
    go_ret2
    exact ⟨_, _, rfl, h6, G6⟩
  have d1 : (x == 1) = false := by simpa using e1
  have G6 := G4.out
  clear e0 e1
  go_wp2
  go_ret2
  exact ⟨_, _, rfl, h4, G6⟩

/-- what stands where a maker and a lock have been drawn: the boxes of both results, the maker's box, the lock's, the source -/
structure DL (w W : World) (B g : Nat) (A : Option Addr) (n c : Nat) (m : Mk) (bm lo : Nat) (V : Option Addr) (k c' : Nat) (zss : List (List Int)) : Prop where
  x : Boxed W w.heap.size 25 ⟨0, 0, 0, 0, 0⟩
  o : Cell1 W (w.heap.size + 1) 30 (.slice none 0 0)
  y : Boxed W bm 25 m
  l : Cell1 W (bm + 1) 30 (.slice V k c')
  f : Far W lo V k c' zss
  h : Src W B g A n c
  c : Below w.heap.size w W
  hB : B ≤ w.heap.size
  hg : w.heap.size + 1 < g
  hl : g < lo
  hm : lo ≤ bm
theorem DL.on {w W W' : World} {B g n c bm lo k c' : Nat} {A V : Option Addr} {m : Mk} {zss : List (List Int)} (h : DL w W B g A n c m bm lo V k c' zss) (b : Below W.heap.size W W') : DL w W' B g A n c m bm lo V k c' zss :=
  ⟨h.x.on b, h.o.on b, h.y.on b, h.l.on b, h.f.on b, h.h.on b (Nat.le_trans h.hB h.c.size), below_trans' h.c b, h.hB, h.hg, h.hl, h.hm⟩
theorem DL.grown {w W W' : World} {B g n c bm lo k c' : Nat} {A V : Option Addr} {m : Mk} {zss : List (List Int)} (h : DL w W B g A n c m bm lo V k c' zss) (hg : W.grownBy W' (some g)) (hs : Src W' B g A n c) : DL w W' B g A n c m bm lo V k c' zss :=
  have h1 := h.hg
  have h2 := h.hl
  have h3 := h.hm
  ⟨h.x.grown hg (fun e => by injection e with e; omega), h.o.grown hg (fun e => by injection e with e; omega), h.y.grown hg (fun e => by injection e with e; omega), h.l.grown hg (fun e => by injection e with e; omega), h.f.grown hg h2, hs, below_grown h.c hg (fun q e => by injection e with e; omega), h.hB, h.hg, h.hl, h.hm⟩
theorem DL.drew {w W : World} {B g n c bm lo k c' : Nat} {A V : Option Addr} {m : Mk} {zss : List (List Int)} (h : DL w W B g A n c m bm lo V k c' zss) : DL w W.drew B g A n c m bm lo V k c' zss := h.on (below_drewN (Below.refl _ W) 1)
theorem DL.cells {w W : World} {B g n c bm lo k c' : Nat} {A V : Option Addr} {m : Mk} {zss : List (List Int)} (h : DL w W B g A n c m bm lo V k c' zss) : W.cell? ⟨bm, 0, none⟩ = some (.int .i64 m.C) ∧ W.cell? ⟨bm, 1, none⟩ = some (.int .i64 m.D) ∧ W.cell? ⟨bm, 2, none⟩ = some (.int .i64 m.S) ∧ W.cell? ⟨bm, 3, none⟩ = some (.int .i64 m.M) ∧ W.cell? ⟨bm, 4, none⟩ = some (.int .i64 m.L) ∧ W.cell? ⟨bm + 1, 0, none⟩ = some (.slice V k c') := by
  obtain ⟨q0, q1, q2, q3, q4⟩ := h.y.cells
  exact ⟨q0, q1, q2, q3, q4, h.l.cell⟩
/-- both results stored -/
structure DZ (w W : World) (m : Mk) (V : Option Addr) (k c' : Nat) (zss : List (List Int)) : Prop where
  x : Boxed W w.heap.size 25 m
  o : Cell1 W (w.heap.size + 1) 30 (.slice V k c')
  f : Far W w.heap.size V k c' zss
  c : Below w.heap.size w W
theorem DL.last {w W : World} {B g n c bm lo k c' : Nat} {A V : Option Addr} {m : Mk} {zss : List (List Int)} (h : DL w W B g A n c m bm lo V k c' zss) : DZ w (((((((W.setCell ⟨w.heap.size, 0, none⟩ (.int .i64 m.C)).setCell ⟨w.heap.size, 1, none⟩ (.int .i64 m.D)).setCell ⟨w.heap.size, 2, none⟩ (.int .i64 m.S)).setCell ⟨w.heap.size, 3, none⟩ (.int .i64 m.M)).setCell ⟨w.heap.size, 4, none⟩ (.int .i64 m.L)).setCell ⟨w.heap.size + 1, 0, none⟩ (.slice V k c'))) m V k c' zss := by
  have h1 := h.hg
  have h2 := h.hl
  have hx := (h.x.put m).other (p := ⟨w.heap.size + 1, 0, none⟩) (by show w.heap.size + 1 ≠ w.heap.size; omega) (.slice V k c')
  have ho := (h.o.aside5 (b' := w.heap.size) (by omega) m).put (.slice V k c')
  have hf := ((h.f.aside5 (b := w.heap.size) (by omega) m).aside (p := ⟨w.heap.size + 1, 0, none⟩) (by show w.heap.size + 1 < _; omega) (.slice V k c')).down (lo' := w.heap.size) (by omega)
  have hc := below_set (below_put h.c (Nat.le_refl _) m) (p := ⟨w.heap.size + 1, 0, none⟩) (by show w.heap.size ≤ w.heap.size + 1; omega) (.slice V k c')
  unfold put5 at hx ho hf hc
  exact ⟨hx, ho, hf, hc⟩
theorem DZ.drew {w W : World} {m : Mk} {V : Option Addr} {k c' : Nat} {zss : List (List Int)} (h : DZ w W m V k c' zss) : DZ w W.drew m V k c' zss :=
  have b := below_drewN (Below.refl W.heap.size W) 1
  ⟨h.x.on b, h.o.on b, h.f.on b, below_trans' h.c b⟩
/-- the start of such a draw -/
theorem DL.start {w w2 : World} {B g n c k c' lo : Nat} {A V : Option Addr} {m : Mk} {zss : List (List Int)} (hx : Boxed w2 w.heap.size 25 ⟨0, 0, 0, 0, 0⟩) (ho : Cell1 w2 (w.heap.size + 1) 30 (.slice none 0 0)) (hf : Far w2 lo V k c' zss) (hs : Src w2 B g A n c) (hc : Below w.heap.size w w2) (hB : B ≤ w.heap.size) (hg : w.heap.size + 1 < g) (hl : g < lo) (hlo : lo ≤ w2.heap.size) :
    DL w ((w2.alloc (.cells #[.int .i64 m.C, .int .i64 m.D, .int .i64 m.S, .int .i64 m.M, .int .i64 m.L] 25)).alloc (.cells #[.slice V k c'] 30)) B g A n c m w2.heap.size lo V k c' zss := by
  have bB := ((Below.refl w2.heap.size w2).alloc (Nat.le_refl _) (.cells #[.int .i64 m.C, .int .i64 m.D, .int .i64 m.S, .int .i64 m.M, .int .i64 m.L] 25)).alloc (by simp) (.cells #[.slice V k c'] 30)
  have l2 := Cell1.new (w2.alloc (.cells #[.int .i64 m.C, .int .i64 m.D, .int .i64 m.S, .int .i64 m.M, .int .i64 m.L] 25)) 30 (.slice V k c')
  rw [World.size_alloc] at l2
  exact ⟨hx.on bB, ho.on bB, (Boxed.new w2 _ m).alloc _, l2, hf.on bB, hs.on bB (Nat.le_trans hB hc.size), below_trans' hc bB, hB, hg, hl, hlo⟩

/-- a maker, a lock and two numbers -/
def DrawnLM2 (w : World) (e : Ending) (w' : World) : Prop :=
  ∃ (m : Mk) (V : Option Addr) (k c' : Nat) (zss : List (List Int)) (r z : Int), e = .returned (.tuple #[.agg #[.int .i64 m.C, .int .i64 m.D, .int .i64 m.S, .int .i64 m.M, .int .i64 m.L], .agg #[.slice V k c'], .int .i64 r, .int .i64 z]) ∧ Small m ∧ Far w' w.heap.size V k c' zss ∧ Few k zss ∧ k ≤ c' ∧ c' ≤ 9223372036854775807 ∧ Below w.heap.size w w'

set_option maxRecDepth 100000 in
set_option maxHeartbeats 4000000 in
theorem drawCountMayOpen_any (B : Nat) (A : Option Addr) (n c : Nat) (w : World) (hb : Bts w B A n) (hB : B ≤ w.heap.size) (hn : n ≤ 4096) :
    Calls Try.prog 61 #[.slice A n c] w (DrawnLM2 w) := by
  have bA := ((Below.refl w.heap.size w).alloc (Nat.le_refl _) (.cells #[.int .i64 0, .int .i64 0, .int .i64 0, .int .i64 0, .int .i64 0] 25)).alloc (by simp) (.cells #[.slice none 0 0] 30)
  have HB := Lib.hid (hb.keep (fun p hp => Below.cell bA (by omega)))
  have X0 := Lib.hid ((Boxed.new w 25 ⟨0, 0, 0, 0, 0⟩).alloc (.cells #[.slice none 0 0] 30))
  have O0' := Cell1.new (w.alloc (.cells #[.int .i64 0, .int .i64 0, .int .i64 0, .int .i64 0, .int .i64 0] 25)) 30 (.slice none 0 0)
  rw [World.size_alloc] at O0'
  have O0 := Lib.hid O0'
  have BA := Lib.hid bA
  clear hb O0' bA
  go_enter Try.func61, Try.ntmps61
  go_wp2_with fail
  refine (l01From_any B A n c _ HB.out (by simp; omega) hn).mono ?_
  rintro e w1 ⟨g, rfl, hg, hg1, h1, b1⟩
  have X1 := Lib.hid (X0.out.on b1)
  have O1 := Lib.hid (O0.out.on b1)
  have B1 := Lib.hid (below_trans' BA.out b1)
  have hgw : w.heap.size + 1 < g := by simp at hg; omega
  clear X0 O0 BA HB b1
  go_wp2_with fail
  refine (l04Draw_any B g A n c _ h1 (by have := B1.out.size; omega)).mono ?_
  rintro e w2 ⟨m, V, k, c', zss, rfl, hSm, hF, hFew, hkc, hcm, h2, g2⟩
  have K2 : Hid (DL w ((w2.alloc (.cells #[.int .i64 m.C, .int .i64 m.D, .int .i64 m.S, .int .i64 m.M, .int .i64 m.L] 25)).alloc (.cells #[.slice V k c'] 30)) B g A n c m w2.heap.size w1.heap.size V k c' zss) := Lib.hid (DL.start (X1.out.grown g2 (by intro e; injection e with e; omega)) (O1.out.grown g2 (by intro e; injection e with e; omega)) hF h2 (below_grown B1.out g2 (fun q e => by injection e with e; omega)) hB hgw hg1 g2.size)
  have HW := Lib.hid hFew
  obtain ⟨b6, h6⟩ : ∃ b6, b6 = w2.heap.size := ⟨_, rfl⟩
  clear X1 O1 B1 hF hFew h1 h2 g2
  go_wp2_with fail
  refine (l08DrawNumbers_any B g A n c _ K2.out.h).mono ?_
  rintro e w4 ⟨r, z, rfl, h4, g4⟩
  have K4 := K2.out.grown g4 h4
  rw [← h6] at K4
  have K4 := Lib.hid K4
  clear K2 h4 g4
  rw [← h6]
  clear h6
  obtain ⟨q0, q1, q2, q3, q4, cl⟩ := K4.out.cells
  obtain ⟨p0, p1, p2, p3, p4⟩ := K4.out.x.cells
  have co := K4.out.o.cell
  have fo := K4.out.o.thawed
  have fx := K4.out.x.thawed
  have hwb : w.heap.size + 1 < b6 := by have h1 := K4.out.hg; have h2 := K4.out.hl; have h3 := K4.out.hm; omega
  go_wp2
  go_region
  generalize hW : (((((((w4.setCell ⟨w.heap.size, 0, none⟩ (.int .i64 m.C)).setCell ⟨w.heap.size, 1, none⟩ (.int .i64 m.D)).setCell ⟨w.heap.size, 2, none⟩ (.int .i64 m.S)).setCell ⟨w.heap.size, 3, none⟩ (.int .i64 m.M)).setCell ⟨w.heap.size, 4, none⟩ (.int .i64 m.L)).setCell ⟨w.heap.size + 1, 0, none⟩ (.slice V k c'))).drew = W7
  have HZ := Lib.hid (hW ▸ K4.out.last.drew)
  clear q0 q1 q2 q3 q4 p0 p1 p2 p3 p4 cl co fo fx hW K4
  go_wp2
  obtain ⟨r0, r1, r2, r3, r4⟩ := HZ.out.x.cells
  have r5 := HZ.out.o.cell
  refine bodyPost_ret (v := .tuple #[.agg #[.int .i64 m.C, .int .i64 m.D, .int .i64 m.S, .int .i64 m.M, .int .i64 m.L], .agg #[.slice V k c'], .int .i64 r, .int .i64 z]) (by simp [results, Try.results61, go_sem, r0, r1, r2, r3, r4, r5]) rfl ⟨m, V, k, c', zss, r, z, rfl, hSm, HZ.out.f, HW.out, hkc, hcm, HZ.out.c⟩

set_option maxRecDepth 100000 in
set_option maxHeartbeats 4000000 in
theorem drawWornLock_any (B : Nat) (A : Option Addr) (n c : Nat) (w : World) (hb : Bts w B A n) (hB : B ≤ w.heap.size) (hn : n ≤ 4096) :
    Calls Try.prog 70 #[.slice A n c] w (DrawnLM2 w) := by
  have bA := ((Below.refl w.heap.size w).alloc (Nat.le_refl _) (.cells #[.int .i64 0, .int .i64 0, .int .i64 0, .int .i64 0, .int .i64 0] 25)).alloc (by simp) (.cells #[.slice none 0 0] 30)
  have HB := Lib.hid (hb.keep (fun p hp => Below.cell bA (by omega)))
  have X0 := Lib.hid ((Boxed.new w 25 ⟨0, 0, 0, 0, 0⟩).alloc (.cells #[.slice none 0 0] 30))
  have O0' := Cell1.new (w.alloc (.cells #[.int .i64 0, .int .i64 0, .int .i64 0, .int .i64 0, .int .i64 0] 25)) 30 (.slice none 0 0)
  rw [World.size_alloc] at O0'
  have O0 := Lib.hid O0'
  have BA := Lib.hid bA
  clear hb O0' bA
  go_enter Try.func70, Try.ntmps70
  go_wp2_with fail
  refine (drawCountMayOpen_any B A n c _ HB.out (by simp; omega) hn).mono ?_
  rintro e w2 ⟨m, V, k, c', zss, r, z, rfl, hSm, hF, hFew, hkc, hcm, b2⟩
  have hF' := hF.down (lo' := w.heap.size + 2) (by rw [World.size_alloc, World.size_alloc]; omega)
  have X2 := X0.out.on b2
  have O2 := O0.out.on b2
  have B2 := below_trans' BA.out b2
  obtain ⟨p0, p1, p2, p3, p4⟩ := X2.cells
  have co := O2.cell
  have fo := O2.thawed
  have fx := X2.thawed
  have X7 := Lib.hid ((X2.put m).other (p := ⟨w.heap.size + 1, 0, none⟩) (by show w.heap.size + 1 ≠ w.heap.size; omega) (.slice V k c'))
  have O7 := Lib.hid ((O2.aside5 (b' := w.heap.size) (by omega) m).put (.slice V k c'))
  have F7 := Lib.hid ((hF'.aside5 (b := w.heap.size) (by omega) m).aside (p := ⟨w.heap.size + 1, 0, none⟩) (by show w.heap.size + 1 < _; omega) (.slice V k c'))
  have B7 := Lib.hid (below_set (below_put B2 (Nat.le_refl _) m) (p := ⟨w.heap.size + 1, 0, none⟩) (by show w.heap.size ≤ w.heap.size + 1; omega) (.slice V k c'))
  have HW := Lib.hid hFew
  clear X0 O0 BA X2 O2 B2 hF hF' hFew b2
  go_wp2
  obtain ⟨r0, r1, r2, r3, r4⟩ := X7.out.cells
  have r5 := O7.out.cell
  unfold put5 at X7 O7 F7 B7 r0 r1 r2 r3 r4 r5
  refine bodyPost_ret (v := .tuple #[.agg #[.int .i64 m.C, .int .i64 m.D, .int .i64 m.S, .int .i64 m.M, .int .i64 m.L], .agg #[.slice V k c'], .int .i64 r, .int .i64 z]) (by simp [results, Try.results70, go_sem, r0, r1, r2, r3, r4, r5]) rfl ⟨m, V, k, c', zss, r, z, rfl, hSm, F7.out.down (by omega), HW.out, hkc, hcm, B7.out⟩

end Go.Proofs.Ytbfnffecmglgfaa
