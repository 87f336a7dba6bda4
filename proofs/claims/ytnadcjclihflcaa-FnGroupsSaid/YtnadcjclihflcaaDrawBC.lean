/- The draw of a building and some nodes. -/
import Derived.Test.YtnadcjclihflcaaDrawBN
namespace Go.Proofs.Ytnadcjclihflcaa
open Go Go.RowKit

structure DcK (w wx : World) (lo b3 B g : Nat) (A : Option Addr) (n c : Nat) (A1 : Option Addr) (m c1 : Nat) (A2 : Option Addr) (k c2 : Nat) (P : List Int) (D : List Bool) : Prop where
  own : BOwn wx lo b3 A1 m A2 k P D
  r : Cell2 wx w.heap.size 27 (.slice none 0 0) (.slice none 0 0)
  q : Cell2 wx b3 27 (.slice A1 m c1) (.slice A2 k c2)
  h : Src wx B g A n c
  b : Below w.heap.size w wx
theorem DcK.on {w wx wy : World} {lo b3 B g : Nat} {A : Option Addr} {n c : Nat} {A1 : Option Addr} {m c1 : Nat} {A2 : Option Addr} {k c2 : Nat} {P : List Int} {D : List Bool} {row : Option Nat} (d : DcK w wx lo b3 B g A n c A1 m c1 A2 k c2 P D) (hg : wx.grownBy wy row) (hs : Src wy B g A n c) (hr : ∀ z, row = some z → z = g ∨ b3 < z) (h1 : g < lo) (h2 : w.heap.size < g) (h4 : w.heap.size < b3) (h3 : lo ≤ b3) : DcK w wy lo b3 B g A n c A1 m c1 A2 k c2 P D :=
  ⟨d.own.apart hg (fun q e => by have := hr q e; omega), d.r.grown hg (fun e => by have := hr _ e.symm; omega), d.q.grown hg (fun e => by have := hr _ e.symm; omega), hs, below_grown d.b hg (fun q e => by have := hr q e; omega)⟩
/-- what the draw of a building and nodes answers -/
def DrawnBL (w : World) (e : Ending) (w' : World) : Prop :=
  ∃ A1 m c1 A2 k c2 P D N q e0 xs, e = .returned (.tuple #[.agg #[.slice A1 m c1, .slice A2 k c2], .slice N q e0]) ∧ Bld w' A1 m A2 k P D ∧ m ≤ 64 ∧ k ≤ 64 ∧ Ints w' w'.heap.size N q xs ∧ q ≤ 64 ∧ Below w.heap.size w w'

set_option maxRecDepth 100000 in
set_option maxHeartbeats 4000000 in
theorem drawCommonGroup_any (B : Nat) (A : Option Addr) (n c : Nat) (w : World) (hb : Bts w B A n) (hB : B ≤ w.heap.size) (hn : n ≤ 4096) :
    Calls Try.prog 75 #[.slice A n c] w (DrawnBL w) := by
  have b0 := (Below.refl w.heap.size w).alloc (Nat.le_refl _) (.cells #[.slice none 0 0, .slice none 0 0] 27)
  have K0 := Lib.hid (Cell2.new w 27 (.slice none 0 0) (.slice none 0 0))
  have HB := Lib.hid (hb.keep (w' := w.alloc (.cells #[.slice none 0 0, .slice none 0 0] 27)) (fun p hp => b0.cell (Nat.lt_of_lt_of_le hp hB)))
  have B0 := Lib.hid b0
  obtain ⟨ii, hi0, hz0, hz1, hz2⟩ := info_parts Try.info2'
  have HF := Lib.hid (And.intro hi0 (And.intro hz0 (And.intro hz1 hz2)))
  clear b0 hb hi0 hz0 hz1 hz2
  go_enter Try.func75, Try.ntmps75
  go_wp2_with fail
  refine (l01From_any B A n c _ HB.out (by simp; omega) hn).mono ?_
  rintro e w1 ⟨g, rfl, hg, hg1, h1, b1⟩
  have K1 := Lib.hid (K0.out.on b1)
  have B1 := Lib.hid (below_trans' B0.out b1)
  have S1 := Lib.hid h1
  rw [World.size_alloc] at hg
  clear h1 b1 K0 B0 HB
  go_wp2_with fail
  refine (l09Draw_any B g A n c _ S1.out).mono ?_
  rintro e w2 ⟨A1, m, c1, A2, k, c2, P, D, rfl, ho, hm, hk, _, _, _, _, h2, g2⟩
  have bA := (Below.refl w2.heap.size w2).alloc (Nat.le_refl _) (.cells #[.slice A1 m c1, .slice A2 k c2] 27)
  have sz2 := g2.size
  have l0 : w.heap.size < w1.heap.size := by omega
  have KC0 : DcK w (w2.alloc (.cells #[.slice A1 m c1, .slice A2 k c2] 27)) w1.heap.size w2.heap.size B g A n c A1 m c1 A2 k c2 P D := ⟨ho.below bA, (K1.out.grown g2 (fun e => by injection e with e; omega)).alloc _, Cell2.new w2 _ _ _, h2.alloc _, (below_grown B1.out g2 (fun q e => by injection e with e; omega)).alloc (by have := B1.out.size; omega) _⟩
  have KC := Lib.hid (KC0.on (grown_alloc (World.grownBy.refl _ none) (.cells #[] 2)) (KC0.h.alloc _) (fun z e => by cases e) hg1 (by omega) (by omega) sz2)
  have R0 := Lib.hid (row_empty (w := w2.alloc (.cells #[.slice A1 m c1, .slice A2 k c2] 27)) (t := 2) (base := w2.heap.size + 1) (by simp))
  rw [World.size_alloc] at R0
  clear ho h2 g2 K1 B1 S1 bA KC0
  go_wp2_with fail
  refine (l01Next_any B g A n c _ _ KC.out.h (by omega)).mono ?_
  rintro e w3 ⟨x, rfl, x0, x1, h3, g3⟩
  have K3 := Lib.hid (KC.out.on g3 h3 (fun z e => by injection e with e; omega) hg1 (by omega) (by omega) sz2)
  have R3 := Lib.hid (row_apart R0.out g3 (by omega))
  have x3 : x ≤ 3 := by omega
  clear h3 g3 KC R0 x1
  go_wp2
  go_loopw [6, 7] (fun y i wr => ∃ (j : Nat) (xs : List Int), j ≤ 3 ∧ (j : Int) ≤ x ∧ i = .int .i64 (x - j) ∧ xs.length = j ∧ Hid (wr.ownsRow (w2.heap.size + 1) 2 1 y j (listI xs)) ∧ Hid (DcK w wr w1.heap.size w2.heap.size B g A n c A1 m c1 A2 k c2 P D)) (fun _ i _ => (intOf i).toNat)
  case atStart => exact ⟨0, [], by omega, by omega, by go_num, rfl, R3, K3⟩
  case round =>
    obtain ⟨j, xs, hj3, hjx, rfl, hxl, HR, HK⟩ := hrel
    clear R3 K3
    obtain ⟨N, e0, rfl, _⟩ := row_ints HR.out hxl
    have HXL := Lib.hid hxl
    clear hxl
    by_cases hlt : (j : Int) < x
    · obtain ⟨p0, p1⟩ := HK.out.q.cells
      go_wp2_with fail
      refine (l09DrawNode_any B g A n c A1 m c1 A2 k c2 _ HK.out.h hm).mono ?_
      rintro e w4 ⟨v, rfl, h4, g4⟩
      have K4 := Lib.hid (HK.out.on g4 h4 (fun z e => by injection e with e; omega) hg1 (by omega) (by omega) sz2)
      have R4 := Lib.hid (row_apart HR.out g4 (by omega))
      have HZV := Lib.hid (row_base R4.out)
      have sz4 := K4.out.q.lt
      clear h4 g4 HR HK p0 p1
      go_wp2_with (at_builtin; refine wpList_append_lies _ rfl _ _ 24 rfl (w2.heap.size + 1) 2 ii _ 1 8 Try.underlying24 HF.out.1 HF.out.2.1 HF.out.2.2.1 HF.out.2.2.2 rfl (by omega) _ _ _ rfl (rowBelow R4.out ((Below.refl _ _).alloc (Nat.le_refl _) _)) ⟨w4.heap.size, 0, none⟩ 1 1 [.int .i64 v] rfl rfl (World.news_of_block (cs := #[.int .i64 v]) (t := 2) (fr := (0, 0)) (heap_alloc_new w4 _)) (by simp [Value.oneCell']) (by omega) (by unfold maxLen; omega) (by omega) (by simp; omega) (w4.heap.size + 1) (by simp) ?_; intro gg cap wn hown1 hgrow hat hlt3)
      have R5 : Hid (wn.ownsRow (w2.heap.size + 1) 2 1 (.slice (some ⟨gg, 0, none⟩) (j + 1) cap) (j + 1) (listI (xs ++ [v]))) := Lib.hid (by rw [← listI_snoc]; exact hown1)
      have S5 := (K4.out.h.alloc (.cells #[.int .i64 v] 2)).apart hgrow (fun z e => by have := HZV.out z e; omega)
      have KA := K4.out.on (grown_alloc (World.grownBy.refl _ none) (.cells #[.int .i64 v] 2)) (K4.out.h.alloc _) (fun z e => by cases e) hg1 (by omega) (by omega) sz2
      have K5 := Lib.hid (KA.on hgrow S5 (fun z e => by have := HZV.out z e; omega) hg1 (by omega) (by omega) sz2)
      have L5 : Hid ((xs ++ [v]).length = j + 1) := Lib.hid (by rw [List.length_append, HXL.out]; rfl)
      clear hown1 hgrow hat hlt3 R4 K4 KA S5
      go_wp2
      go_roundw
      case rel => exact ⟨j + 1, _, by omega, by omega, by go_num, L5.out, R5, K5⟩
      case measure => simp [intOf]; omega
    · go_wp2_with fail
      refine (l01Next_any B g A n c _ _ HK.out.h (by omega)).mono ?_
      rintro e w4 ⟨y, rfl, y0, y1, h4, g4⟩
      have K4 := Lib.hid (HK.out.on g4 h4 (fun z e => by injection e with e; omega) hg1 (by omega) (by omega) sz2)
      have R4 := Lib.hid (row_apart HR.out g4 (by omega))
      clear h4 g4 HR HK y1
      obtain ⟨_, _, e, ho⟩ := row_ints R4.out HXL.out
      injection e with e1 e2 e3
      subst e1; subst e3
      have I4 := Lib.hid ho
      clear ho R4 hlt hjx
      by_cases hy : y = 0
      · go_wp2_with fail
        refine (l01Next_any B g A n c _ _ K4.out.h (by omega)).mono ?_
        rintro e w5 ⟨s, rfl, s0, s1, h5, g5⟩
        have K5 := Lib.hid (K4.out.on g5 h5 (fun z e => by injection e with e; omega) hg1 (by omega) (by omega) sz2)
        obtain ⟨M, hM, hM2⟩ : ∃ M : Nat, 24 + s = (M : Int) ∧ M ≤ 25 := ⟨(24 + s).toNat, by omega, by omega⟩
        have hmk := run_make_row' (P := Try.prog) 24 2 (.int .i64 0) 8 Try.underlying24 Try.info2' rfl .i64 .i64 M (by omega) (by omega)
        have hws : IntKind.i64.wrap (24 + s) = (M : Int) := by rw [hM, IntKind.wrap_i64]; omega
        have K6 := Lib.hid (K5.out.on (grown_alloc (World.grownBy.refl _ none) (.cells (madeCells #[.int .i64 0] M) 2)) (K5.out.h.alloc _) (fun z e => by cases e) hg1 (by omega) (by omega) sz2)
        have I6 := Lib.hid (show Own (w5.alloc (.cells (madeCells #[.int .i64 0] M) 2)) (w.heap.size + 1) (w5.alloc (.cells (madeCells #[.int .i64 0] M) 2)).heap.size (some ⟨w5.heap.size, 0, none⟩) M (List.replicate M 0) from Own.of_row ((World.rowIs_made w5 (.int .i64 0) M 2).congr (fun i hi => by simp [hi])) (by simp) (by have := K5.out.q.lt; omega))
        obtain ⟨p0, p1⟩ := K6.out.q.cells
        obtain ⟨r0, r1⟩ := K6.out.r.cells
        have f0 := K6.out.r.thawed 0
        have f1 := K6.out.r.thawed 1
        clear h5 g5 K4 I4 K5 s1
        go_wp2
        clear p0 p1 r0 r1 f0 f1
        have R := ((K6.out.r.put0 (.slice A1 m c1)).put1 (.slice A2 k c2)).cells
        have s5 : (w5.alloc (.cells (madeCells #[.int .i64 0] M) 2)).grownBy (((w5.alloc (.cells (madeCells #[.int .i64 0] M) 2)).setCell ⟨w.heap.size, 0, none⟩ (.slice A1 m c1)).setCell ⟨w.heap.size, 1, none⟩ (.slice A2 k c2)) (some w.heap.size) := grown_set (p := ⟨w.heap.size, 1, none⟩) (grown_set (p := ⟨w.heap.size, 0, none⟩) (World.grownBy.refl _ _) rfl _) rfl _
        have o6 := (K6.out.own.apart s5 (fun q e => by injection e with e; omega)).bld
        have b6 := below_grown K6.out.b s5 (fun q e => by injection e with e; omega)
        have i6 := (I6.out.apart s5 (fun q e => by injection e with e; omega)).ints
        refine bodyPost_ret (v := .tuple #[.agg #[.slice A1 m c1, .slice A2 k c2], .slice (some ⟨w5.heap.size, 0, none⟩) M M]) (by simp [results, Try.results75, go_sem, R.1, R.2]) rfl ⟨_, _, _, _, _, _, P, D, _, _, _, List.replicate M 0, rfl, o6, hm, hk, i6, by omega, b6⟩
      · have hy0 : (y == 0) = false := by simpa using hy
        obtain ⟨p0, p1⟩ := K4.out.q.cells
        obtain ⟨r0, r1⟩ := K4.out.r.cells
        have f0 := K4.out.r.thawed 0
        have f1 := K4.out.r.thawed 1
        go_wp2
        clear p0 p1 r0 r1 f0 f1
        have R := ((K4.out.r.put0 (.slice A1 m c1)).put1 (.slice A2 k c2)).cells
        have s5 : (w4).grownBy (((w4).setCell ⟨w.heap.size, 0, none⟩ (.slice A1 m c1)).setCell ⟨w.heap.size, 1, none⟩ (.slice A2 k c2)) (some w.heap.size) := grown_set (p := ⟨w.heap.size, 1, none⟩) (grown_set (p := ⟨w.heap.size, 0, none⟩) (World.grownBy.refl _ _) rfl _) rfl _
        have o6 := (K4.out.own.apart s5 (fun q e => by injection e with e; omega)).bld
        have b6 := below_grown K4.out.b s5 (fun q e => by injection e with e; omega)
        have i6 := (I4.out.apart s5 (fun q e => by injection e with e; omega)).ints
        refine bodyPost_ret (v := .tuple #[.agg #[.slice A1 m c1, .slice A2 k c2], .slice N j e0]) (by simp [results, Try.results75, go_sem, R.1, R.2]) rfl ⟨_, _, _, _, _, _, P, D, _, _, _, xs, rfl, o6, hm, hk, i6, by omega, b6⟩

end Go.Proofs.Ytnadcjclihflcaa
