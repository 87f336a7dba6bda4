/- The draws of a plan with a key, with a door, with both. -/
import Derived.Test.YtnadcjclihflcaaDrawPD
import Derived.Test.YtnadcjclihflcaaDrawBN
namespace Go.Proofs.Ytnadcjclihflcaa
open Go Go.RowKit

/-- what is kept behind the draw of a plan: its lists, the result's box, its own box, the source -/
structure DpK (w wx : World) (lo b3 B g : Nat) (A : Option Addr) (n c : Nat) (A1 : Option Addr) (m c1 : Nat) (A2 : Option Addr) (k c2 : Nat) (V : Option Addr) (q cq : Nat) (P : List Int) (D : List Bool) (R : List (List Int)) : Prop where
  own : PlF wx lo A1 m A2 k V q P D R
  r : Cell3 wx w.heap.size 30 (.slice none 0 0) (.slice none 0 0) (.slice none 0 0)
  q : Cell3 wx b3 30 (.slice A1 m c1) (.slice A2 k c2) (.slice V q cq)
  h : Src wx B g A n c
  b : Below w.heap.size w wx
theorem DpK.grown {w wx wy : World} {lo b3 B g : Nat} {A : Option Addr} {n c : Nat} {A1 : Option Addr} {m c1 : Nat} {A2 : Option Addr} {k c2 : Nat} {V : Option Addr} {q cq : Nat} {P : List Int} {D : List Bool} {R : List (List Int)} (d : DpK w wx lo b3 B g A n c A1 m c1 A2 k c2 V q cq P D R) (hg : wx.grownBy wy (some g)) (hs : Src wy B g A n c) (h1 : g < lo) (h2 : w.heap.size < g) (h3 : g ≠ b3) : DpK w wy lo b3 B g A n c A1 m c1 A2 k c2 V q cq P D R :=
  ⟨d.own.above (Above.of_grown hg (fun r e => by injection e with e; omega)), d.r.grown hg (fun e => by injection e with e; omega), d.q.grown hg (fun e => by injection e with e; omega), hs, below_grown d.b hg (fun q e => by injection e with e; omega)⟩
theorem DpK.drew {w wx : World} {lo b3 B g : Nat} {A : Option Addr} {n c : Nat} {A1 : Option Addr} {m c1 : Nat} {A2 : Option Addr} {k c2 : Nat} {V : Option Addr} {q cq : Nat} {P : List Int} {D : List Bool} {R : List (List Int)} (d : DpK w wx lo b3 B g A n c A1 m c1 A2 k c2 V q cq P D R) : DpK w wx.drew lo b3 B g A n c A1 m c1 A2 k c2 V q cq P D R :=
  ⟨d.own.above (Above.drew _ _), d.r, d.q, d.h, d.b.drew⟩
/-- the result is stored -/
def putP (w : World) (b : Nat) (x y z : Value) : World := ((w.setCell ⟨b, 0, none⟩ x).setCell ⟨b, 1, none⟩ y).setCell ⟨b, 2, none⟩ z
theorem DpK.put {w wx : World} {lo b3 B g : Nat} {A : Option Addr} {n c : Nat} {A1 : Option Addr} {m c1 : Nat} {A2 : Option Addr} {k c2 : Nat} {V : Option Addr} {q cq : Nat} {P : List Int} {D : List Bool} {R : List (List Int)} (d : DpK w wx lo b3 B g A n c A1 m c1 A2 k c2 V q cq P D R) (x y z : Value) (h1 : w.heap.size < lo) (h3 : w.heap.size ≠ b3) : Cell3 (putP wx w.heap.size x y z) w.heap.size 30 x y z ∧ Cell3 (putP wx w.heap.size x y z) b3 30 (.slice A1 m c1) (.slice A2 k c2) (.slice V q cq) ∧ PlF (putP wx w.heap.size x y z) w.heap.size A1 m A2 k V q P D R ∧ Below w.heap.size w (putP wx w.heap.size x y z) := by
  have s5 : wx.grownBy (putP wx w.heap.size x y z) (some w.heap.size) := grown_set (p := ⟨w.heap.size, 2, none⟩) (grown_set (p := ⟨w.heap.size, 1, none⟩) (grown_set (p := ⟨w.heap.size, 0, none⟩) (World.grownBy.refl wx _) rfl _) rfl _) rfl _
  exact ⟨((d.r.put0 x).put1 y).put2 z, d.q.grown s5 (fun e => by injection e with e; omega), (d.own.above (Above.of_grown s5 (fun r e => by injection e with e; omega))).down (by omega), below_grown d.b s5 (fun q e => by injection e with e; omega)⟩
/-- what the draws of a plan answer, with a number or two -/
def PmIs (w : World) (w' : World) (A1 : Option Addr) (m : Nat) (A2 : Option Addr) (k : Nat) (V : Option Addr) (q : Nat) (P : List Int) (D : List Bool) (R : List (List Int)) : Prop :=
  PlF w' w.heap.size A1 m A2 k V q P D R ∧ m ≤ 64 ∧ k ≤ 64 ∧ q ≤ 11 ∧ (∀ ys ∈ R, ys.length ≤ 64) ∧ Below w.heap.size w w'
def DrawnP0 (w : World) (e : Ending) (w' : World) : Prop :=
  ∃ A1 m c1 A2 k c2 V q cq P D R, e = .returned (.agg #[.slice A1 m c1, .slice A2 k c2, .slice V q cq]) ∧ PmIs w w' A1 m A2 k V q P D R
def DrawnP1 (w : World) (e : Ending) (w' : World) : Prop :=
  ∃ A1 m c1 A2 k c2 V q cq P D R x, e = .returned (.tuple #[.agg #[.slice A1 m c1, .slice A2 k c2, .slice V q cq], .int .i64 x]) ∧ PmIs w w' A1 m A2 k V q P D R
def DrawnP2 (w : World) (e : Ending) (w' : World) : Prop :=
  ∃ A1 m c1 A2 k c2 V q cq P D R x y, e = .returned (.tuple #[.agg #[.slice A1 m c1, .slice A2 k c2, .slice V q cq], .int .i64 x, .int .i64 y]) ∧ PmIs w w' A1 m A2 k V q P D R

set_option maxRecDepth 100000 in
set_option maxHeartbeats 4000000 in
theorem drawAccessOf_any (B : Nat) (A : Option Addr) (n c : Nat) (w : World) (hb : Bts w B A n) (hB : B ≤ w.heap.size) (hn : n ≤ 4096) :
    Calls Try.prog 20 #[.slice A n c] w (DrawnP0 w) := by
  have b0 := (Below.refl w.heap.size w).alloc (Nat.le_refl _) (.cells #[.slice none 0 0, .slice none 0 0, .slice none 0 0] 30)
  have K0 := Lib.hid (Cell3.new w 30 (.slice none 0 0) (.slice none 0 0) (.slice none 0 0))
  have HB := Lib.hid (hb.keep (w' := w.alloc (.cells #[.slice none 0 0, .slice none 0 0, .slice none 0 0] 30)) (fun p hp => b0.cell (Nat.lt_of_lt_of_le hp hB)))
  have B0 := Lib.hid b0
  clear b0 hb
  go_enter Try.func20, Try.ntmps20
  go_wp2_with fail
  refine (l01From_any B A n c _ HB.out (by simp; omega) hn).mono ?_
  rintro e w1 ⟨g, rfl, hg, hg1, h1, b1⟩
  have K1 := Lib.hid (K0.out.on b1)
  have B1 := Lib.hid (below_trans' B0.out b1)
  have S1 := Lib.hid h1
  rw [World.size_alloc] at hg
  clear h1 b1 K0 B0 HB
  go_wp2_with fail
  refine (l10Draw_any B g A n c _ S1.out).mono ?_
  rintro e w2 ⟨A1, m, c1, A2, k, c2, V, q, cq, P, D, R, rfl, ho, hm, hk, hq, hR, h2, g2⟩
  have sz2 := g2.size
  have K2 := Lib.hid (K1.out.grown g2 (fun e => by injection e with e; omega))
  have B2 := below_grown B1.out g2 (fun q e => by injection e with e; omega)
  have f0 := K2.out.thawed 0
  have f1 := K2.out.thawed 1
  have f2 := K2.out.thawed 2
  obtain ⟨r0, r1, r2⟩ := K2.out.cells
  clear h2 g2 K1 B1 S1
  go_wp2
  clear f0 f1 f2 r0 r1 r2
  have s5 : w2.grownBy (putP w2 w.heap.size (.slice A1 m c1) (.slice A2 k c2) (.slice V q cq)) (some w.heap.size) := grown_set (p := ⟨w.heap.size, 2, none⟩) (grown_set (p := ⟨w.heap.size, 1, none⟩) (grown_set (p := ⟨w.heap.size, 0, none⟩) (World.grownBy.refl w2 _) rfl _) rfl _) rfl _
  have O5 := (ho.above (Above.of_grown s5 (fun r e => by injection e with e; omega))).down (lo' := w.heap.size) (by omega)
  have B5 := below_grown B2 s5 (fun q e => by injection e with e; omega)
  have RR := (((K2.out.put0 (.slice A1 m c1)).put1 (.slice A2 k c2)).put2 (.slice V q cq)).cells
  refine bodyPost_ret (v := .agg #[.slice A1 m c1, .slice A2 k c2, .slice V q cq]) (by simp [results, Try.results20, go_sem, RR.1, RR.2.1, RR.2.2]) rfl ⟨_, _, _, _, _, _, _, _, _, _, _, _, rfl, O5, hm, hk, hq, hR, B5⟩

set_option maxRecDepth 100000 in
set_option maxHeartbeats 4000000 in
theorem drawDoorsFor_any (B : Nat) (A : Option Addr) (n c : Nat) (w : World) (hb : Bts w B A n) (hB : B ≤ w.heap.size) (hn : n ≤ 4096) :
    Calls Try.prog 26 #[.slice A n c] w (DrawnP1 w) := by
  have b0 := (Below.refl w.heap.size w).alloc (Nat.le_refl _) (.cells #[.slice none 0 0, .slice none 0 0, .slice none 0 0] 30)
  have K0 := Lib.hid (Cell3.new w 30 (.slice none 0 0) (.slice none 0 0) (.slice none 0 0))
  have HB := Lib.hid (hb.keep (w' := w.alloc (.cells #[.slice none 0 0, .slice none 0 0, .slice none 0 0] 30)) (fun p hp => b0.cell (Nat.lt_of_lt_of_le hp hB)))
  have B0 := Lib.hid b0
  clear b0 hb
  go_enter Try.func26, Try.ntmps26
  go_wp2_with fail
  refine (l01From_any B A n c _ HB.out (by simp; omega) hn).mono ?_
  rintro e w1 ⟨g, rfl, hg, hg1, h1, b1⟩
  have K1 := Lib.hid (K0.out.on b1)
  have B1 := Lib.hid (below_trans' B0.out b1)
  have S1 := Lib.hid h1
  rw [World.size_alloc] at hg
  clear h1 b1 K0 B0 HB
  go_wp2_with fail
  refine (l10Draw_any B g A n c _ S1.out).mono ?_
  rintro e w2 ⟨A1, m, c1, A2, k, c2, V, q, cq, P, D, R, rfl, ho, hm, hk, hq, hR, h2, g2⟩
  have sz2 := g2.size
  have bA := Above.of_grown (grown_alloc (World.grownBy.refl w2 none) (.cells #[.slice A1 m c1, .slice A2 k c2, .slice V q cq] 30)) (B := w1.heap.size + 1) (fun r e => by cases e)
  have KD := Lib.hid (show DpK w (w2.alloc (.cells #[.slice A1 m c1, .slice A2 k c2, .slice V q cq] 30)) (w1.heap.size + 1) w2.heap.size B g A n c A1 m c1 A2 k c2 V q cq P D R from ⟨ho.above bA, (K1.out.grown g2 (fun e => by injection e with e; omega)).alloc _, Cell3.new w2 _ _ _ _, h2.alloc _, (below_grown B1.out g2 (fun q e => by injection e with e; omega)).alloc (by have := B1.out.size; omega) _⟩)
  clear ho h2 g2 K1 B1 S1 bA
  have KD1 := KD.out.drew
  have cl := KD.out.q.cells
  have cl1 := KD1.q.cells
  obtain ⟨r0, r1, r2⟩ := KD.out.r.cells
  have f0 := KD.out.r.thawed 0
  have f1 := KD.out.r.thawed 1
  have f2 := KD.out.r.thawed 2
  obtain ⟨q0, q1, q2⟩ := KD.out.q.cells
  have lr : w.heap.size < w2.heap.size := by omega
  go_wp2
  go_region_held3 (fun w' => w'.cell? ⟨w2.heap.size, 0, none⟩ = some (.slice A1 m c1) ∧ w'.cell? ⟨w2.heap.size, 1, none⟩ = some (.slice A2 k c2) ∧ w'.cell? ⟨w2.heap.size, 2, none⟩ = some (.slice V q cq))
    (first
      | go_keep
      | with_reducible exact cl1
      | with_reducible exact CL4
      | with_reducible exact CL5)
    (first
      | (go_at_call 87; refine (l10DrawKey_any B g A n c A1 m c1 A2 k c2 V q cq _ KD1.h (by omega)).mono ?_; rintro e w4 ⟨x, rfl, h4, g4⟩; have K4 := KD1.grown g4 h4 (by omega) (by omega) (by omega); have CL4 := K4.q.cells; have P5 := K4.put (.slice A1 m c1) (.slice A2 k c2) (.slice V q cq) (by omega) (by omega); have CL5 := P5.2.1.cells; unfold putP at CL5; obtain ⟨rr0, rr1, rr2⟩ := K4.r.cells; have ff0 := K4.r.thawed 0; have ff1 := K4.r.thawed 1; have ff2 := K4.r.thawed 2))
  all_goals
    clear r0 r1 r2 f0 f1 f2 q0 q1 q2 rr0 rr1 rr2 ff0 ff1 ff2 CL4 CL5 cl cl1
    go_wp2
    have RR := P5.1.cells
    have HZ := Lib.hid P5.2.2
    clear P5
    unfold putP at RR HZ
    refine bodyPost_ret (v := .tuple #[.agg #[.slice A1 m c1, .slice A2 k c2, .slice V q cq], .int .i64 x]) (by simp [results, Try.results26, go_sem, RR.1, RR.2.1, RR.2.2]) rfl ⟨_, _, _, _, _, _, _, _, _, _, _, _, _, rfl, HZ.out.1, hm, hk, hq, hR, HZ.out.2⟩

set_option maxRecDepth 100000 in
set_option maxHeartbeats 4000000 in
theorem drawKeysFor_any (B : Nat) (A : Option Addr) (n c : Nat) (w : World) (hb : Bts w B A n) (hB : B ≤ w.heap.size) (hn : n ≤ 4096) :
    Calls Try.prog 29 #[.slice A n c] w (DrawnP1 w) := by
  have b0 := (Below.refl w.heap.size w).alloc (Nat.le_refl _) (.cells #[.slice none 0 0, .slice none 0 0, .slice none 0 0] 30)
  have K0 := Lib.hid (Cell3.new w 30 (.slice none 0 0) (.slice none 0 0) (.slice none 0 0))
  have HB := Lib.hid (hb.keep (w' := w.alloc (.cells #[.slice none 0 0, .slice none 0 0, .slice none 0 0] 30)) (fun p hp => b0.cell (Nat.lt_of_lt_of_le hp hB)))
  have B0 := Lib.hid b0
  clear b0 hb
  go_enter Try.func29, Try.ntmps29
  go_wp2_with fail
  refine (l01From_any B A n c _ HB.out (by simp; omega) hn).mono ?_
  rintro e w1 ⟨g, rfl, hg, hg1, h1, b1⟩
  have K1 := Lib.hid (K0.out.on b1)
  have B1 := Lib.hid (below_trans' B0.out b1)
  have S1 := Lib.hid h1
  rw [World.size_alloc] at hg
  clear h1 b1 K0 B0 HB
  go_wp2_with fail
  refine (l10Draw_any B g A n c _ S1.out).mono ?_
  rintro e w2 ⟨A1, m, c1, A2, k, c2, V, q, cq, P, D, R, rfl, ho, hm, hk, hq, hR, h2, g2⟩
  have sz2 := g2.size
  have bA := Above.of_grown (grown_alloc (World.grownBy.refl w2 none) (.cells #[.slice A1 m c1, .slice A2 k c2, .slice V q cq] 30)) (B := w1.heap.size + 1) (fun r e => by cases e)
  have KD := Lib.hid (show DpK w (w2.alloc (.cells #[.slice A1 m c1, .slice A2 k c2, .slice V q cq] 30)) (w1.heap.size + 1) w2.heap.size B g A n c A1 m c1 A2 k c2 V q cq P D R from ⟨ho.above bA, (K1.out.grown g2 (fun e => by injection e with e; omega)).alloc _, Cell3.new w2 _ _ _ _, h2.alloc _, (below_grown B1.out g2 (fun q e => by injection e with e; omega)).alloc (by have := B1.out.size; omega) _⟩)
  clear ho h2 g2 K1 B1 S1 bA
  have KD1 := KD.out.drew
  have cl := KD.out.q.cells
  have cl1 := KD1.q.cells
  obtain ⟨r0, r1, r2⟩ := KD.out.r.cells
  have f0 := KD.out.r.thawed 0
  have f1 := KD.out.r.thawed 1
  have f2 := KD.out.r.thawed 2
  obtain ⟨q0, q1, q2⟩ := KD.out.q.cells
  have lr : w.heap.size < w2.heap.size := by omega
  go_wp2
  go_region_held3 (fun w' => w'.cell? ⟨w2.heap.size, 0, none⟩ = some (.slice A1 m c1) ∧ w'.cell? ⟨w2.heap.size, 1, none⟩ = some (.slice A2 k c2) ∧ w'.cell? ⟨w2.heap.size, 2, none⟩ = some (.slice V q cq))
    (first
      | go_keep
      | with_reducible exact cl1
      | with_reducible exact CL4
      | with_reducible exact CL5)
    (first
      | (go_at_call 88; refine (l09DrawNode_any B g A n c A1 m c1 A2 k c2 _ KD1.h hm).mono ?_; rintro e w4 ⟨x, rfl, h4, g4⟩; have K4 := KD1.grown g4 h4 (by omega) (by omega) (by omega); have CL4 := K4.q.cells; have P5 := K4.put (.slice A1 m c1) (.slice A2 k c2) (.slice V q cq) (by omega) (by omega); have CL5 := P5.2.1.cells; unfold putP at CL5; obtain ⟨rr0, rr1, rr2⟩ := K4.r.cells; have ff0 := K4.r.thawed 0; have ff1 := K4.r.thawed 1; have ff2 := K4.r.thawed 2))
  all_goals
    clear r0 r1 r2 f0 f1 f2 q0 q1 q2 rr0 rr1 rr2 ff0 ff1 ff2 CL4 CL5 cl cl1
    go_wp2
    have RR := P5.1.cells
    have HZ := Lib.hid P5.2.2
    clear P5
    unfold putP at RR HZ
    refine bodyPost_ret (v := .tuple #[.agg #[.slice A1 m c1, .slice A2 k c2, .slice V q cq], .int .i64 x]) (by simp [results, Try.results29, go_sem, RR.1, RR.2.1, RR.2.2]) rfl ⟨_, _, _, _, _, _, _, _, _, _, _, _, _, rfl, HZ.out.1, hm, hk, hq, hR, HZ.out.2⟩

set_option maxRecDepth 100000 in
set_option maxHeartbeats 4000000 in
theorem drawMayEnter_any (B : Nat) (A : Option Addr) (n c : Nat) (w : World) (hb : Bts w B A n) (hB : B ≤ w.heap.size) (hn : n ≤ 4096) :
    Calls Try.prog 23 #[.slice A n c] w (DrawnP2 w) := by
  have b0 := (Below.refl w.heap.size w).alloc (Nat.le_refl _) (.cells #[.slice none 0 0, .slice none 0 0, .slice none 0 0] 30)
  have K0 := Lib.hid (Cell3.new w 30 (.slice none 0 0) (.slice none 0 0) (.slice none 0 0))
  have HB := Lib.hid (hb.keep (w' := w.alloc (.cells #[.slice none 0 0, .slice none 0 0, .slice none 0 0] 30)) (fun p hp => b0.cell (Nat.lt_of_lt_of_le hp hB)))
  have B0 := Lib.hid b0
  clear b0 hb
  go_enter Try.func23, Try.ntmps23
  go_wp2_with fail
  refine (l01From_any B A n c _ HB.out (by simp; omega) hn).mono ?_
  rintro e w1 ⟨g, rfl, hg, hg1, h1, b1⟩
  have K1 := Lib.hid (K0.out.on b1)
  have B1 := Lib.hid (below_trans' B0.out b1)
  have S1 := Lib.hid h1
  rw [World.size_alloc] at hg
  clear h1 b1 K0 B0 HB
  go_wp2_with fail
  refine (l10Draw_any B g A n c _ S1.out).mono ?_
  rintro e w2 ⟨A1, m, c1, A2, k, c2, V, q, cq, P, D, R, rfl, ho, hm, hk, hq, hR, h2, g2⟩
  have sz2 := g2.size
  have bA := Above.of_grown (grown_alloc (World.grownBy.refl w2 none) (.cells #[.slice A1 m c1, .slice A2 k c2, .slice V q cq] 30)) (B := w1.heap.size + 1) (fun r e => by cases e)
  have KD := Lib.hid (show DpK w (w2.alloc (.cells #[.slice A1 m c1, .slice A2 k c2, .slice V q cq] 30)) (w1.heap.size + 1) w2.heap.size B g A n c A1 m c1 A2 k c2 V q cq P D R from ⟨ho.above bA, (K1.out.grown g2 (fun e => by injection e with e; omega)).alloc _, Cell3.new w2 _ _ _ _, h2.alloc _, (below_grown B1.out g2 (fun q e => by injection e with e; omega)).alloc (by have := B1.out.size; omega) _⟩)
  clear ho h2 g2 K1 B1 S1 bA
  obtain ⟨q0, q1, q2⟩ := KD.out.q.cells
  go_wp2_with fail
  refine (l10DrawKey_any B g A n c A1 m c1 A2 k c2 V q cq _ KD.out.h (by omega)).mono ?_
  rintro e w3 ⟨y, rfl, h3, g3⟩
  have KE := Lib.hid (KD.out.grown g3 h3 (by omega) (by omega) (by omega))
  clear h3 g3 KD q0 q1 q2
  have KD1 := KE.out.drew
  have cl := KE.out.q.cells
  have cl1 := KD1.q.cells
  obtain ⟨r0, r1, r2⟩ := KE.out.r.cells
  have f0 := KE.out.r.thawed 0
  have f1 := KE.out.r.thawed 1
  have f2 := KE.out.r.thawed 2
  obtain ⟨q0, q1, q2⟩ := KE.out.q.cells
  have lr : w.heap.size < w2.heap.size := by omega
  go_wp2
  go_region_held3 (fun w' => w'.cell? ⟨w2.heap.size, 0, none⟩ = some (.slice A1 m c1) ∧ w'.cell? ⟨w2.heap.size, 1, none⟩ = some (.slice A2 k c2) ∧ w'.cell? ⟨w2.heap.size, 2, none⟩ = some (.slice V q cq))
    (first
      | go_keep
      | with_reducible exact cl1
      | with_reducible exact CL4
      | with_reducible exact CL5)
    (first
      | (go_at_call 88; refine (l09DrawNode_any B g A n c A1 m c1 A2 k c2 _ KD1.h hm).mono ?_; rintro e w4 ⟨x, rfl, h4, g4⟩; have K4 := KD1.grown g4 h4 (by omega) (by omega) (by omega); have CL4 := K4.q.cells; have P5 := K4.put (.slice A1 m c1) (.slice A2 k c2) (.slice V q cq) (by omega) (by omega); have CL5 := P5.2.1.cells; unfold putP at CL5; obtain ⟨rr0, rr1, rr2⟩ := K4.r.cells; have ff0 := K4.r.thawed 0; have ff1 := K4.r.thawed 1; have ff2 := K4.r.thawed 2))
  all_goals
    clear r0 r1 r2 f0 f1 f2 q0 q1 q2 rr0 rr1 rr2 ff0 ff1 ff2 CL4 CL5 cl cl1
    go_wp2
    have RR := P5.1.cells
    have HZ := Lib.hid P5.2.2
    clear P5
    unfold putP at RR HZ
    refine bodyPost_ret (v := .tuple #[.agg #[.slice A1 m c1, .slice A2 k c2, .slice V q cq], .int .i64 y, .int .i64 x]) (by simp [results, Try.results23, go_sem, RR.1, RR.2.1, RR.2.2]) rfl ⟨_, _, _, _, _, _, _, _, _, _, _, _, _, _, rfl, HZ.out.1, hm, hk, hq, hR, HZ.out.2⟩

end Go.Proofs.Ytnadcjclihflcaa
