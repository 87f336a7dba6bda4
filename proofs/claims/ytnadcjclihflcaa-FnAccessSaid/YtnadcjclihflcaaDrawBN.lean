/- The draws of a node of a building, of a building and a node, of a building and nodes. -/
import Derived.Test.YtnadcjclihflcaaDrawBD
namespace Go.Proofs.Ytnadcjclihflcaa
open Go Go.RowKit

/-- what a draw of a number answers, whatever it is -/
def DrawnI (w : World) (B g : Nat) (A : Option Addr) (n c : Nat) (e : Ending) (w' : World) : Prop := ∃ x : Int, e = .returned (.int .i64 x) ∧ Src w' B g A n c ∧ w.grownBy w' (some g)
/-- what is kept while a node is drawn -/
structure NdK (w wx : World) (B g : Nat) (A : Option Addr) (n c : Nat) (u v : Value) : Prop where
  bx : Cell2 wx w.heap.size 27 u v
  h : Src wx B g A n c
  gr : w.grownBy wx (some g)
theorem NdK.next {w wx wy : World} {B g : Nat} {A : Option Addr} {n c : Nat} {u v : Value} (k : NdK w wx B g A n c u v) (hg : wx.grownBy wy (some g)) (hs : Src wy B g A n c) (h1 : g < w.heap.size) : NdK w wy B g A n c u v :=
  ⟨k.bx.grown hg (fun e => by injection e with e; omega), hs, grown_trans' k.gr hg⟩
theorem Cell2.drew {w : World} {b : Nat} {t : TypeId} {u v : Value} (h : Cell2 w b t u v) : Cell2 w.drew b t u v := h

set_option maxRecDepth 100000 in
set_option maxHeartbeats 4000000 in
theorem l09DrawNode_any (B g : Nat) (A : Option Addr) (n c : Nat) (A1 : Option Addr) (m c1 : Nat) (A2 : Option Addr) (k c2 : Nat) (w : World) (h : Src w B g A n c) (hm : m ≤ 64) :
    Calls Try.prog 88 #[.pointer (some ⟨g, 0, none⟩), .agg #[.slice A1 m c1, .slice A2 k c2]] w (DrawnI w B g A n c) := by
  have hg1 := h.lt
  have K0 : NdK w (w.alloc (.cells #[.slice A1 m c1, .slice A2 k c2] 27)).drew B g A n c (.slice A1 m c1) (.slice A2 k c2) := ⟨Cell2.new w _ _ _, h.alloc _, grown_drewN (grown_alloc (World.grownBy.refl w (some g)) _) 1⟩
  have cl : (w.alloc (.cells #[.slice A1 m c1, .slice A2 k c2] 27)).cell? ⟨w.heap.size, 0, none⟩ = some (.slice A1 m c1) := K0.bx.cells.1
  have cl' := K0.bx.cells.1
  clear h
  go_enter Try.func88, Try.ntmps88
  go_wp2
  go_region_held3 (fun w' => w'.cell? ⟨w.heap.size, 0, none⟩ = some (.slice A1 m c1))
    (first
      | go_keep
      | with_reducible exact cl'
      | with_reducible exact Ea
      | with_reducible exact Eb
      | with_reducible exact Ec)
    (first
      | (go_at_call 104; (with_reducible refine (l01Next_any B g A n c 12 _ (NdK.h (by with_reducible assumption)) (by omega)).mono ?_); rintro e wa ⟨xa, rfl, xa0, xa1, Sa, ga⟩; have Ka := NdK.next (by with_reducible assumption) ga Sa hg1; have Ea := Ka.bx.cells.1; have u1 : xa.tdiv 11 = xa / 11 := Int.tdiv_eq_ediv_of_nonneg (by omega); have v3 : IntKind.i64.wrap (xa / 11) = xa / 11 := (by rw [IntKind.wrap_i64]; omega); have v4 : IntKind.i64.wrap (xa.tdiv 11) = xa / 11 := (by rw [u1]; exact v3); have v5 : IntKind.i64.wrap ((m : Int) + xa / 11) = (m : Int) + xa / 11 := (by rw [IntKind.wrap_i64]; omega))
      | (go_at_call 104; (with_reducible refine (l01Next_any B g A n c 20 _ (NdK.h (by with_reducible assumption)) (by omega)).mono ?_); rintro e wc ⟨xc, rfl, xc0, xc1, Sc, gc⟩; have Kc := NdK.next (by with_reducible assumption) gc Sc hg1; have Ec := Kc.bx.cells.1; skip)
      | (go_at_call 104; (with_reducible refine (l01Next_any B g A n c ((m : Int) + xa / 11) _ (NdK.h (by with_reducible assumption)) (by omega)).mono ?_); rintro e wb ⟨xb, rfl, xb0, xb1, Sb, gb⟩; have Kb := NdK.next (by with_reducible assumption) gb Sb hg1; have Eb := Kb.bx.cells.1; skip))
  all_goals
    go_wp2
    go_ret
    first
      | exact ⟨_, rfl, Kc.h, Kc.gr⟩
      | exact ⟨_, rfl, Kb.h, Kb.gr⟩

/-- what is kept behind the draw of a building: its lists, the result's box, its own box, the source -/
structure DnK (w wx : World) (lo b3 B g : Nat) (A : Option Addr) (n c : Nat) (A1 : Option Addr) (m c1 : Nat) (A2 : Option Addr) (k c2 : Nat) (P : List Int) (D : List Bool) : Prop where
  own : BOwn wx lo wx.heap.size A1 m A2 k P D
  r : Cell2 wx w.heap.size 27 (.slice none 0 0) (.slice none 0 0)
  q : Cell2 wx b3 27 (.slice A1 m c1) (.slice A2 k c2)
  h : Src wx B g A n c
  b : Below w.heap.size w wx
theorem DnK.grown {w wx wy : World} {lo b3 B g : Nat} {A : Option Addr} {n c : Nat} {A1 : Option Addr} {m c1 : Nat} {A2 : Option Addr} {k c2 : Nat} {P : List Int} {D : List Bool} (d : DnK w wx lo b3 B g A n c A1 m c1 A2 k c2 P D) (hg : wx.grownBy wy (some g)) (hs : Src wy B g A n c) (h1 : g < lo) (h2 : w.heap.size < g) (h3 : g ≠ b3) : DnK w wy lo b3 B g A n c A1 m c1 A2 k c2 P D :=
  ⟨(d.own.apart hg (fun q e => by injection e with e; omega)).wide, d.r.grown hg (fun e => by injection e with e; omega), d.q.grown hg (fun e => by injection e with e; omega), hs, below_grown d.b hg (fun q e => by injection e with e; omega)⟩
theorem DnK.drew {w wx : World} {lo b3 B g : Nat} {A : Option Addr} {n c : Nat} {A1 : Option Addr} {m c1 : Nat} {A2 : Option Addr} {k c2 : Nat} {P : List Int} {D : List Bool} (d : DnK w wx lo b3 B g A n c A1 m c1 A2 k c2 P D) : DnK w wx.drew lo b3 B g A n c A1 m c1 A2 k c2 P D :=
  ⟨d.own.below (Below.refl _ _).drew, d.r, d.q, d.h, d.b.drew⟩
theorem DnK.cells {w wx : World} {lo b3 B g : Nat} {A : Option Addr} {n c : Nat} {A1 : Option Addr} {m c1 : Nat} {A2 : Option Addr} {k c2 : Nat} {P : List Int} {D : List Bool} (d : DnK w wx lo b3 B g A n c A1 m c1 A2 k c2 P D) : wx.cell? ⟨b3, 0, none⟩ = some (.slice A1 m c1) ∧ wx.cell? ⟨b3, 1, none⟩ = some (.slice A2 k c2) := d.q.cells
/-- the result is stored -/
def putB (w : World) (b : Nat) (x y : Value) : World := (w.setCell ⟨b, 0, none⟩ x).setCell ⟨b, 1, none⟩ y
theorem DnK.put {w wx : World} {lo b3 B g : Nat} {A : Option Addr} {n c : Nat} {A1 : Option Addr} {m c1 : Nat} {A2 : Option Addr} {k c2 : Nat} {P : List Int} {D : List Bool} (d : DnK w wx lo b3 B g A n c A1 m c1 A2 k c2 P D) (x y : Value) (h1 : w.heap.size < lo) (h3 : w.heap.size ≠ b3) : Cell2 (putB wx w.heap.size x y) w.heap.size 27 x y ∧ Cell2 (putB wx w.heap.size x y) b3 27 (.slice A1 m c1) (.slice A2 k c2) ∧ BOwn (putB wx w.heap.size x y) w.heap.size (putB wx w.heap.size x y).heap.size A1 m A2 k P D ∧ Below w.heap.size w (putB wx w.heap.size x y) := by
  have s5 : wx.grownBy (putB wx w.heap.size x y) (some w.heap.size) := grown_set (p := ⟨w.heap.size, 1, none⟩) (grown_set (p := ⟨w.heap.size, 0, none⟩) (World.grownBy.refl wx _) rfl _) rfl _
  exact ⟨(d.r.put0 x).put1 y, d.q.grown s5 (fun e => by injection e with e; omega), (d.own.apart s5 (fun q e => by injection e with e; omega)).wide.more (by omega) (Nat.le_refl _) (Nat.le_refl _), below_grown d.b s5 (fun q e => by injection e with e; omega)⟩
/-- what the draw of a building and a node answers -/
def DrawnBX (w : World) (e : Ending) (w' : World) : Prop :=
  ∃ A1 m c1 A2 k c2 P D x, e = .returned (.tuple #[.agg #[.slice A1 m c1, .slice A2 k c2], .int .i64 x]) ∧ BOwn w' w.heap.size w'.heap.size A1 m A2 k P D ∧ m ≤ 64 ∧ k ≤ 64 ∧ Below w.heap.size w w'

set_option maxRecDepth 100000 in
set_option maxHeartbeats 4000000 in
theorem drawDoorsUnder_any (B : Nat) (A : Option Addr) (n c : Nat) (w : World) (hb : Bts w B A n) (hB : B ≤ w.heap.size) (hn : n ≤ 4096) :
    Calls Try.prog 70 #[.slice A n c] w (DrawnBX w) := by
  have b0 := (Below.refl w.heap.size w).alloc (Nat.le_refl _) (.cells #[.slice none 0 0, .slice none 0 0] 27)
  have K0 := Lib.hid (Cell2.new w 27 (.slice none 0 0) (.slice none 0 0))
  have HB := Lib.hid (hb.keep (w' := w.alloc (.cells #[.slice none 0 0, .slice none 0 0] 27)) (fun p hp => b0.cell (Nat.lt_of_lt_of_le hp hB)))
  have B0 := Lib.hid b0
  clear b0 hb
  go_enter Try.func70, Try.ntmps70
  go_wp2_with fail
  refine (l01From_any B A n c _ HB.out (by simp; omega) hn).mono ?_
  rintro e w1 ⟨g, rfl, hg, hg1, h1, b1⟩
  have K1 := Lib.hid (K0.out.on b1)
  have B1 := Lib.hid (below_trans' B0.out b1)
  have S1 := Lib.hid h1
  rw [World.size_alloc] at hg
  clear h1 b1 K0 B0 HB
  go_wp2_with fail
  refine (l09Draw_any B g A n c _ S1.out).mono ?_
  rintro e w2 ⟨A1, m, c1, A2, k, c2, P, D, rfl, ho, hm, hk, _, _, _, _, h2, g2⟩
  have bA := (Below.refl w2.heap.size w2).alloc (Nat.le_refl _) (.cells #[.slice A1 m c1, .slice A2 k c2] 27)
  have sz2 := g2.size
  have KD := Lib.hid (show DnK w (w2.alloc (.cells #[.slice A1 m c1, .slice A2 k c2] 27)) w1.heap.size w2.heap.size B g A n c A1 m c1 A2 k c2 P D from ⟨(ho.below bA).wide, (K1.out.grown g2 (fun e => by injection e with e; omega)).alloc _, Cell2.new w2 _ _ _, h2.alloc _, (below_grown B1.out g2 (fun q e => by injection e with e; omega)).alloc (by have := B1.out.size; omega) _⟩)
  clear ho h2 g2 K1 B1 S1 bA
  have KD1 := KD.out.drew
  have cl := KD.out.cells
  have cl1 := KD1.cells
  obtain ⟨r0, r1⟩ := KD.out.r.cells
  have f0 := KD.out.r.thawed 0
  have f1 := KD.out.r.thawed 1
  obtain ⟨q0, q1⟩ := KD.out.q.cells
  have lr : w.heap.size < w1.heap.size := by omega
  go_wp2
  go_region_held3 (fun w' => w'.cell? ⟨w2.heap.size, 0, none⟩ = some (.slice A1 m c1) ∧ w'.cell? ⟨w2.heap.size, 1, none⟩ = some (.slice A2 k c2))
    (first
      | go_keep
      | with_reducible exact cl1
      | with_reducible exact CL4
      | with_reducible exact CL5)
    (first
      | (go_at_call 88; refine (l09DrawNode_any B g A n c A1 m c1 A2 k c2 _ KD1.h hm).mono ?_; rintro e w4 ⟨x, rfl, h4, g4⟩; have K4 := KD1.grown g4 h4 hg1 (by omega) (by omega); have CL4 := K4.cells; have P5 := K4.put (.slice A1 m c1) (.slice A2 k c2) lr (by omega); have CL5 := P5.2.1.cells; unfold putB at CL5; obtain ⟨rr0, rr1⟩ := K4.r.cells; have ff0 := K4.r.thawed 0; have ff1 := K4.r.thawed 1))
  all_goals
    clear r0 r1 f0 f1 q0 q1 rr0 rr1 ff0 ff1 CL4 CL5 cl cl1
    go_wp2
    have R := P5.1.cells
    have HZ := Lib.hid P5.2.2
    clear P5
    unfold putB at R HZ
    refine bodyPost_ret (v := .tuple #[.agg #[.slice A1 m c1, .slice A2 k c2], .int .i64 x]) (by simp [results, Try.results70, go_sem, R.1, R.2]) rfl ⟨_, _, _, _, _, _, P, D, _, rfl, HZ.out.1, hm, hk, HZ.out.2⟩

theorem drawAncestorsOf_any (B : Nat) (A : Option Addr) (n c : Nat) (w : World) (hb : Bts w B A n) (hB : B ≤ w.heap.size) (hn : n ≤ 4096) :
    Calls Try.prog 71 #[.slice A n c] w (DrawnBX w) := by
  have b0 := (Below.refl w.heap.size w).alloc (Nat.le_refl _) (.cells #[.slice none 0 0, .slice none 0 0] 27)
  have K0 := Lib.hid (Cell2.new w 27 (.slice none 0 0) (.slice none 0 0))
  have HB := Lib.hid (hb.keep (w' := w.alloc (.cells #[.slice none 0 0, .slice none 0 0] 27)) (fun p hp => b0.cell (Nat.lt_of_lt_of_le hp hB)))
  have B0 := Lib.hid b0
  clear b0 hb
  go_enter Try.func71, Try.ntmps71
  go_wp2_with fail
  refine (drawDoorsUnder_any B A n c _ HB.out (by simp; omega) hn).mono ?_
  rintro e w1 ⟨A1, m, c1, A2, k, c2, P, D, x, rfl, hx, hm, hk, b1⟩
  have K1 := Lib.hid (K0.out.on b1)
  have B1 := Lib.hid (below_trans' B0.out b1)
  have HX := Lib.hid hx
  clear b1 K0 B0 HB hx
  obtain ⟨r0, r1⟩ := K1.out.cells
  have f0 := K1.out.thawed 0
  have f1 := K1.out.thawed 1
  rw [World.size_alloc] at HX
  go_wp2
  clear r0 r1 f0 f1
  have R := ((K1.out.put0 (.slice A1 m c1)).put1 (.slice A2 k c2)).cells
  have s5 : w1.grownBy ((w1.setCell ⟨w.heap.size, 0, none⟩ (.slice A1 m c1)).setCell ⟨w.heap.size, 1, none⟩ (.slice A2 k c2)) (some w.heap.size) := grown_set (p := ⟨w.heap.size, 1, none⟩) (grown_set (p := ⟨w.heap.size, 0, none⟩) (World.grownBy.refl w1 _) rfl _) rfl _
  refine bodyPost_ret (v := .tuple #[.agg #[.slice A1 m c1, .slice A2 k c2], .int .i64 x]) (by simp [results, Try.results71, go_sem, R.1, R.2]) rfl ⟨_, _, _, _, _, _, P, D, _, rfl, ?_, hm, hk, below_grown B1.out s5 (fun q e => by injection e with e; omega)⟩
  exact (HX.out.apart s5 (fun q e => by injection e with e; omega)).wide.more (by omega) (Nat.le_refl _) (Nat.le_refl _)

/-- what the draw of a building answers -/
def DrawnB1 (w : World) (e : Ending) (w' : World) : Prop :=
  ∃ A1 m c1 A2 k c2 P D, e = .returned (.agg #[.slice A1 m c1, .slice A2 k c2]) ∧ BOwn w' w.heap.size w'.heap.size A1 m A2 k P D ∧ m ≤ 64 ∧ k ≤ 64 ∧ Below w.heap.size w w'

theorem drawDoorsOf_any (B : Nat) (A : Option Addr) (n c : Nat) (w : World) (hb : Bts w B A n) (hB : B ≤ w.heap.size) (hn : n ≤ 4096) :
    Calls Try.prog 78 #[.slice A n c] w (DrawnB1 w) := by
  have b0 := (Below.refl w.heap.size w).alloc (Nat.le_refl _) (.cells #[.slice none 0 0, .slice none 0 0] 27)
  have K0 := Lib.hid (Cell2.new w 27 (.slice none 0 0) (.slice none 0 0))
  have HB := Lib.hid (hb.keep (w' := w.alloc (.cells #[.slice none 0 0, .slice none 0 0] 27)) (fun p hp => b0.cell (Nat.lt_of_lt_of_le hp hB)))
  have B0 := Lib.hid b0
  clear b0 hb
  go_enter Try.func78, Try.ntmps78
  go_wp2_with fail
  refine (l01From_any B A n c _ HB.out (by simp; omega) hn).mono ?_
  rintro e w0 ⟨g, rfl, hg, hg1, h1, b1⟩
  have K1 := Lib.hid (K0.out.on b1)
  have B1 := Lib.hid (below_trans' B0.out b1)
  have S1 := Lib.hid h1
  rw [World.size_alloc] at hg
  clear h1 b1 K0 B0 HB
  go_wp2_with fail
  refine (l09Draw_any B g A n c _ S1.out).mono ?_
  rintro e w1 ⟨A1, m, c1, A2, k, c2, P, D, rfl, hx, hm, hk, _, _, _, _, h2, g2⟩
  have K2 := Lib.hid (K1.out.grown g2 (fun e => by injection e with e; omega))
  have B2 := Lib.hid (below_grown B1.out g2 (fun q e => by injection e with e; omega))
  have HX := Lib.hid hx
  clear h2 g2 K1 B1 S1 hx
  obtain ⟨r0, r1⟩ := K2.out.cells
  have f0 := K2.out.thawed 0
  have f1 := K2.out.thawed 1
  go_wp2
  clear r0 r1 f0 f1
  have R := ((K2.out.put0 (.slice A1 m c1)).put1 (.slice A2 k c2)).cells
  have s5 : w1.grownBy ((w1.setCell ⟨w.heap.size, 0, none⟩ (.slice A1 m c1)).setCell ⟨w.heap.size, 1, none⟩ (.slice A2 k c2)) (some w.heap.size) := grown_set (p := ⟨w.heap.size, 1, none⟩) (grown_set (p := ⟨w.heap.size, 0, none⟩) (World.grownBy.refl w1 _) rfl _) rfl _
  refine bodyPost_ret (v := .agg #[.slice A1 m c1, .slice A2 k c2]) (by simp [results, Try.results78, go_sem, R.1, R.2]) rfl ⟨_, _, _, _, _, _, P, D, rfl, ?_, hm, hk, below_grown B2.out s5 (fun q e => by injection e with e; omega)⟩
  exact (HX.out.apart s5 (fun q e => by injection e with e; omega)).wide.more (by omega) (Nat.le_refl _) (Nat.le_refl _)

end Go.Proofs.Ytnadcjclihflcaa
