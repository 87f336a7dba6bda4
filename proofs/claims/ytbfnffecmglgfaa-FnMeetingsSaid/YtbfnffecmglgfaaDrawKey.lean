/- The draw of a key. The draw for KeyText. The draws of chapter 3 that give a maker and a key. -/
import Derived.Test.YtbfnffecmglgfaaDrawMk
import Derived.Test.YtbfnffecmglgfaaSNext
namespace Go.Proofs.Ytbfnffecmglgfaa
open Go.RowKit

/-- what a draw of a key answers -/
def DrawnK (w : World) (B g : Nat) (A : Option Addr) (n c : Nat) (e : Ending) (w' : World) : Prop :=
  ∃ A' k c' xs, e = .returned (.slice A' k c') ∧ Own w' w.heap.size w'.heap.size A' k xs ∧ k ≤ 1048576 ∧ k ≤ c' ∧ c' ≤ 9223372036854775807 ∧ Src w' B g A n c ∧ w.grownBy w' (some g)
theorem depth_in {D : Int} {xs : List Int} {x : Int} (h : allIn 0 (D - 1) xs = true) (h0 : 0 ≤ x) (h1 : x ≤ D - 1) : allIn 0 (D - 1) (xs ++ [x]) = true := by
  unfold allIn at *
  rw [List.all_append, h]
  simp [inB]; omega
theorem grown_of_below {a w w' : World} {g : Nat} (h : a.grownBy w (some g)) (hb : Below w.heap.size w w') : a.grownBy w' (some g) := grown_below h hb

set_option maxRecDepth 100000 in
set_option maxHeartbeats 8000000 in
theorem l02Some_any (m : Mk) (hm : m.ok = true) (B g : Nat) (A : Option Addr) (n c : Nat) (w : World) (h : Src w B g A n c) (hBw : B ≤ w.heap.size) :
    Calls Try.prog 92 #[.pointer (some ⟨g, 0, none⟩), .agg #[.int .i64 m.C, .int .i64 m.D, .int .i64 m.S, .int .i64 m.M, .int .i64 m.L]] w (DrawnK w B g A n c) := by
  have hg1 := h.lt
  obtain ⟨m1, m2, m3, m4, m5, m6, m7, m8, m9, m10, m11⟩ := Mk.ok_true hm
  have HM := Lib.hid hm
  obtain ⟨i0, hi, hz0, hz1, hz2⟩ := info_parts Try.info2'
  have HI := Lib.hid (And.intro hi (And.intro hz0 (And.intro hz1 hz2)))
  clear hi hz0 hz1 hz2 hm
  have H1 := Lib.hid ((h.alloc (.cells #[.int .i64 m.C, .int .i64 m.D, .int .i64 m.S, .int .i64 m.M, .int .i64 m.L] 25)).alloc (.cells #[] 2))
  have X1 := Lib.hid ((Boxed.new w 25 m).alloc (.cells #[] 2))
  have R1 := Lib.hid (row_begins (w := w) (t := 2) (.cells #[.int .i64 m.C, .int .i64 m.D, .int .i64 m.S, .int .i64 m.M, .int .i64 m.L] 25))
  have G1 := Lib.hid (grown_alloc (grown_alloc (World.grownBy.refl w (some g)) (.cells #[.int .i64 m.C, .int .i64 m.D, .int .i64 m.S, .int .i64 m.M, .int .i64 m.L] 25)) (.cells #[] 2))
  clear h
  go_enter Try.func92, Try.ntmps92
  go_wp2
  go_loopw [5, 6] (fun v i wr => ∃ (k : Nat) (xs : List Int), (k : Int) ≤ m.C ∧ Hid (xs.length = k) ∧ i = .int .i64 k ∧ Hid (allIn 0 (m.D - 1) xs = true) ∧
      Hid (wr.ownsRow (w.heap.size + 1) 2 1 v k (listI xs)) ∧ Hid (Src wr B g A n c) ∧ Hid (w.grownBy wr (some g)) ∧ Hid (Boxed wr w.heap.size 25 m) ∧ w.heap.size + 2 ≤ wr.heap.size) (fun _ i _ => 9 - (intOf i).toNat)
  case atStart => exact ⟨0, [], by omega, Lib.hid rfl, rfl, Lib.hid rfl, R1, H1, G1, X1, by simp⟩
  case round =>
    clear R1 H1 G1 X1
    obtain ⟨k, xs, hkC, HX, rfl, HA, HO, HS, HG, HB, hz⟩ := hrel
    obtain ⟨q0, q1, q2, q3, q4⟩ := HB.out.cells
    by_cases hlt : (k : Int) < m.C
    · go_wp2_with fail
      clear q0 q1 q2 q3 q4
      refine (l01Next_any B g A n c _ _ HS.out (by omega)).mono ?_
      rintro e w2 ⟨x, rfl, x0, x9, h2, g2⟩
      have X2 := Lib.hid (HB.out.grown g2 (by intro e; injection e with e; omega))
      have R2 := Lib.hid (row_apart HO.out g2 (by omega))
      have G2 := Lib.hid (grown_trans' HG.out g2)
      have H2 := Lib.hid h2
      have z2 : w.heap.size + 2 ≤ w2.heap.size := by have := g2.size; omega
      have x9 : x ≤ m.D - 1 := by omega
      have HA2 := Lib.hid (depth_in HA.out x0 x9)
      clear HO HS HG HB g2 h2 HA
      go_wp2_with (at_builtin; refine wpList_append_lies _ rfl _ _ 39 rfl (w.heap.size + 1) 2 i0 _ 1 8 Try.underlying39 HI.out.1 HI.out.2.1 HI.out.2.2.1 HI.out.2.2.2 rfl (by omega) _ k _ rfl (R2.out.alloc _) ⟨w2.heap.size, 0, none⟩ 1 1 [.int .i64 x] rfl rfl (World.news_of_block (cs := #[.int .i64 x]) (t := 2) (fr := (0, 0)) (heap_alloc_new w2 _)) (by simp [Value.oneCell']) (by omega) (by unfold maxLen; omega) (by omega) (by simp; omega) (w2.heap.size + 1) (by simp) ?_; intro gg cap w5 hown1 hgrow hat hlt3)
      have R5 := Lib.hid hown1
      have S5 := Lib.hid ((H2.out.alloc (.cells #[.int .i64 x] 2)).apart hgrow (fun q e => by have := row_base R2.out q e; omega))
      have X5 := Lib.hid ((X2.out.alloc (.cells #[.int .i64 x] 2)).grown hgrow (by intro e; have := row_base R2.out _ e.symm; omega))
      have G5 := Lib.hid (grown_own (grown_alloc G2.out (.cells #[.int .i64 x] 2)) hgrow (fun q e => by have := row_base R2.out q e; omega))
      have Z5 : w.heap.size + 2 ≤ w5.heap.size := by have := hgrow.size; simp at this; omega
      clear hown1 hgrow hat hlt3 R2 H2 X2 G2
      go_wp2
      go_roundw
      case rel => exact ⟨k + 1, xs ++ [x], by omega, Lib.hid (by rw [List.length_append, HX.out]; rfl), by go_num, HA2, Lib.hid (by rw [← listI_snoc]; exact R5.out), S5, G5, X5, Z5⟩
      case measure => simp [intOf]; omega
    · have hkC2 : (k : Int) = m.C := by omega
      obtain ⟨A5, c5, rfl, ho5, hk5, hc5⟩ := row_full HO.out HX.out
      have hsl := HS.out.lt
      go_wp2_with fail
      clear q0 q1 q2 q3 q4
      refine (l02Next_any m HM.out _ _ _ xs _ ho5.ints hkC2 hk5 HA.out).mono ?_
      rintro e w6 ⟨A6, k6, c6, ok, ys, rfl, o6, hk6, hkc6, hc6, b6, hor⟩
      have X6 := Lib.hid (HB.out.on b6)
      have S6 := Lib.hid (HS.out.on b6 (by omega))
      have G6 := Lib.hid (grown_below HG.out b6)
      have O6 := Lib.hid o6
      have z6 := b6.size
      clear HO HS HG HB ho5 b6 o6 hor
      rcases ok with _ | _
      · obtain ⟨q0, q1, q2, q3, q4⟩ := X6.out.cells
        go_wp2_with fail
        clear q0 q1 q2 q3 q4
        refine (l02First_any m HM.out m.C.toNat none 0 0 [] w6.heap.size _ (by omega) (Own.nil _ (Nat.le_refl _)) (Nat.le_refl _) (by omega) (by omega) (fun _ => ⟨rfl, rfl⟩) rfl).mono ?_
        rintro e w7 ⟨A7, k7, c7, ok7, zs, rfl, o7, hk7, hkc7, hc7, b7, hor⟩
        have S7 := Lib.hid (S6.out.on b7 (by omega))
        have G7 := Lib.hid (grown_below G6.out b7)
        have O7 := Lib.hid o7
        have z7 := b7.size
        clear S6 G6 O6 X6 o7 b7 hor
        go_wp2
        go_ret
        exact ⟨A7, k7, c7, zs, rfl, O7.out.more (by omega) (Nat.le_refl _) (Nat.le_refl _), hk7, hkc7, hc7, S7.out, G7.out⟩
      · go_wp2
        go_ret
        exact ⟨A6, k6, c6, ys, rfl, O6.out.more (by omega) (Nat.le_refl _) (Nat.le_refl _), hk6, hkc6, hc6, S6.out, G6.out⟩

set_option maxRecDepth 100000 in
set_option maxHeartbeats 8000000 in
theorem l02DrawKey_any (m : Mk) (hSm : Small m) (B g : Nat) (A : Option Addr) (n c : Nat) (w : World) (h : Src w B g A n c) (hBw : B ≤ w.heap.size) :
    Calls Try.prog 90 #[.pointer (some ⟨g, 0, none⟩), .agg #[.int .i64 m.C, .int .i64 m.D, .int .i64 m.S, .int .i64 m.M, .int .i64 m.L]] w (DrawnK w B g A n c) := by
  have hg1 := h.lt
  have H1 := Lib.hid (h.alloc (.cells #[.int .i64 m.C, .int .i64 m.D, .int .i64 m.S, .int .i64 m.M, .int .i64 m.L] 25))
  have X1 := Lib.hid (Boxed.new w 25 m)
  have G1 := Lib.hid (grown_alloc (World.grownBy.refl w (some g)) (.cells #[.int .i64 m.C, .int .i64 m.D, .int .i64 m.S, .int .i64 m.M, .int .i64 m.L] 25))
  clear h
  go_enter Try.func90, Try.ntmps90
  go_wp2_with fail
  refine (l02DrawCuts_any m hSm B g A n c _ H1.out).mono ?_
  rintro e w2 ⟨A2, k2, c2, xs, rfl, o2, hk2, hkc2, hc2, h2, g2⟩
  have X2 := Lib.hid (X1.out.grown g2 (by intro e; injection e with e; omega))
  have G2 := Lib.hid (grown_trans' G1.out g2)
  have O2 := Lib.hid (o2.more (lo' := w.heap.size + 1) (by simp) (Nat.le_refl _) (Nat.le_refl _))
  have H2 := Lib.hid h2
  have z2 : w.heap.size + 1 ≤ w2.heap.size := by have := g2.size; simp at this; omega
  clear H1 X1 G1 g2 h2 o2
  obtain ⟨q0, q1, q2, q3, q4⟩ := X2.out.cells
  go_wp2_with fail
  clear q0 q1 q2 q3 q4
  refine (specIsMaker_any m _).mono ?_
  rintro e w3 ⟨rfl, b3⟩
  have X3 := Lib.hid (X2.out.on b3)
  have G3 := Lib.hid (grown_below G2.out b3)
  have O3 := Lib.hid (O2.out.below b3)
  have H3 := Lib.hid (H2.out.on b3 (by omega))
  have z3 := b3.size
  clear X2 G2 O2 H2 b3
  rcases hm : m.ok with _ | _
  · go_wp2
    go_ret
    exact ⟨A2, k2, c2, xs, rfl, O3.out.more (by omega) (by omega) (Nat.le_refl _), by omega, hkc2, hc2, H3.out, G3.out⟩
  have HM := Lib.hid hm
  clear hm
  go_wp2_with fail
  refine (l01Next_any B g A n c _ _ H3.out (by omega)).mono ?_
  rintro e w4 ⟨t, rfl, t0, t9, h4, g4⟩
  have X4 := Lib.hid (X3.out.grown g4 (by intro e; injection e with e; omega))
  have G4 := Lib.hid (grown_trans' G3.out g4)
  have O4 := Lib.hid (O3.out.apart g4 (fun q e => by injection e with e; omega))
  have H4 := Lib.hid h4
  have z4 := g4.size
  clear X3 G3 O3 H3 h4 g4 t9
  by_cases ht : t = 0
  · subst ht
    go_wp2
    go_ret
    exact ⟨A2, k2, c2, xs, rfl, O4.out.more (by omega) (by omega) (Nat.le_refl _), by omega, hkc2, hc2, H4.out, G4.out⟩
  · have tb : (t == 0) = false := by simpa using ht
    obtain ⟨q0, q1, q2, q3, q4⟩ := X4.out.cells
    go_wp2_with fail
    clear q0 q1 q2 q3 q4
    refine (l02Some_any m HM.out B g A n c _ H4.out (by omega)).mono ?_
    rintro e w5 ⟨A5, k5, c5, ys, rfl, o5, hk5, hkc5, hc5, h5, g5⟩
    have G5 := Lib.hid (grown_trans' G4.out g5)
    have O5 := Lib.hid o5
    have H5 := Lib.hid h5
    clear X4 G4 O4 H4 h5 o5 g5
    go_wp2
    go_ret
    exact ⟨A5, k5, c5, ys, rfl, O5.out.more (by omega) (by omega) (Nat.le_refl _), hk5, hkc5, hc5, H5.out, G5.out⟩

end Go.Proofs.Ytbfnffecmglgfaa

namespace Go.Proofs.Ytbfnffecmglgfaa
open Go.RowKit

/-- what a draw of a maker and a key answers -/
def DrawnMK (w : World) (e : Ending) (w' : World) : Prop :=
  ∃ (m : Mk) (A : Option Addr) (k c : Nat) (xs : List Int), e = .returned (.tuple #[.agg #[.int .i64 m.C, .int .i64 m.D, .int .i64 m.S, .int .i64 m.M, .int .i64 m.L], .slice A k c]) ∧ Small m ∧ Ints w' w'.heap.size A k xs ∧ k ≤ 1048576 ∧ k ≤ c ∧ c ≤ 9223372036854775807 ∧ Below w.heap.size w w'

end Go.Proofs.Ytbfnffecmglgfaa

namespace Go.Proofs.Ytbfnffecmglgfaa
open Go.RowKit

/-- what a draw of a maker and a key answers, the list of its own -/
def DrawnMO (w : World) (e : Ending) (w' : World) : Prop :=
  ∃ (m : Mk) (A : Option Addr) (k c : Nat) (xs : List Int), e = .returned (.tuple #[.agg #[.int .i64 m.C, .int .i64 m.D, .int .i64 m.S, .int .i64 m.M, .int .i64 m.L], .slice A k c]) ∧ Small m ∧ Own w' w.heap.size w'.heap.size A k xs ∧ k ≤ 1048576 ∧ k ≤ c ∧ c ≤ 9223372036854775807 ∧ Below w.heap.size w w'

theorem put5_size (w : World) (b : Nat) (m : Mk) : (put5 w b m).heap.size = w.heap.size := by unfold put5; simp [World.setCell]

end Go.Proofs.Ytbfnffecmglgfaa
