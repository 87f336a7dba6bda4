/- The draw of cuts. -/
import Derived.Test.YtlgaocjcfdfhmaaDrawMk2
import Derived.Deep.RegionHeld3
namespace Go.Proofs.Ytlgaocjcfdfhmaa
open Go.RowKit

theorem row_full {w : World} {base t n : Nat} {v : Value} {xs : List Int} (h : w.ownsRow base t 1 v n (listI xs)) (hl : xs.length = n) : ∃ A c, v = .slice A n c ∧ Own w base w.heap.size A n xs ∧ n ≤ c ∧ c ≤ 9223372036854775807 := by
  obtain ⟨A, c, rfl, ho⟩ := row_ints h hl
  refine ⟨A, c, rfl, ho, row_cap h, ?_⟩
  rcases h.2 with ⟨e, _⟩ | ⟨g, cap, cur, e, hb, hg, hnc, hcm, hcs, htk⟩
  · injection e with _ _ e3; omega
  · injection e with _ _ e3
    unfold maxLen at hcm; omega
theorem row_begins {w : World} {t : TypeId} (o : Obj) : ((w.alloc o).alloc (.cells #[] t)).ownsRow (w.heap.size + 1) t 1 (.slice (some ⟨w.heap.size + 1, 0, none⟩) 0 0) 0 (listI []) := by
  have := row_empty (w := w.alloc o) (base := w.heap.size + 1) (t := t) (by simp)
  rwa [show (w.alloc o).heap.size = w.heap.size + 1 by simp] at this

theorem wrap_small {x : Int} (h : -1000000 ≤ x) (h2 : x ≤ 1000000) : IntKind.i64.wrap x = x := by rw [IntKind.wrap_i64]; omega
theorem Src.drewN {w : World} {B g n c : Nat} {A : Option Addr} (h : Src w B g A n c) (q : Nat) : Src (w.drewN q) B g A n c := h

/-- what a draw of cuts answers -/
def DrawnCuts (w : World) (B g : Nat) (A : Option Addr) (n c : Nat) (e : Ending) (w' : World) : Prop :=
  ∃ A' k c' xs, e = .returned (.slice A' k c') ∧ Own w' w.heap.size w'.heap.size A' k xs ∧ k ≤ 10 ∧ k ≤ c' ∧ c' ≤ 9223372036854775807 ∧ Src w' B g A n c ∧ w.grownBy w' (some g)

set_option maxRecDepth 100000 in
set_option maxHeartbeats 8000000 in
theorem l02DrawCuts_any (m : Mk) (hm : Small m) (B g : Nat) (A : Option Addr) (n c : Nat) (w : World) (h : Src w B g A n c) :
    Calls Try.prog 82 #[.pointer (some ⟨g, 0, none⟩), .agg #[.int .i64 m.C, .int .i64 m.D, .int .i64 m.S, .int .i64 m.M, .int .i64 m.L]] w (DrawnCuts w B g A n c) := by
  have hg1 := h.lt
  obtain ⟨c1, c2, d1, d2, s1, s2, _⟩ := hm
  obtain ⟨i0, hi, hz0, hz1, hz2⟩ := info_parts Try.info2'
  have HI := Lib.hid (And.intro hi (And.intro hz0 (And.intro hz1 hz2)))
  clear hi hz0 hz1 hz2
  have H1 := Lib.hid ((h.alloc (.cells #[.int .i64 m.C, .int .i64 m.D, .int .i64 m.S, .int .i64 m.M, .int .i64 m.L] 25)).alloc (.cells #[] 2))
  have X1 := Lib.hid ((Boxed.new w 25 m).alloc (.cells #[] 2))
  have R1 := Lib.hid (row_begins (w := w) (t := 2) (.cells #[.int .i64 m.C, .int .i64 m.D, .int .i64 m.S, .int .i64 m.M, .int .i64 m.L] 25))
  have G1 := Lib.hid (grown_alloc (grown_alloc (World.grownBy.refl w (some g)) (.cells #[.int .i64 m.C, .int .i64 m.D, .int .i64 m.S, .int .i64 m.M, .int .i64 m.L] 25)) (.cells #[] 2))
  clear h
  have hmx1 : (if 1 < m.D then m.D else 1) = m.D := by split <;> omega
  have hmx0 : (if 0 < m.S then m.S else 0) = m.S := by split <;> omega
  go_enter Try.func82, Try.ntmps82
  go_wp2_with fail
  refine (l01Next_any B g A n c _ _ H1.out (by omega)).mono ?_
  rintro e w2 ⟨x, rfl, x0, x9, h2, g2⟩
  have X2 := Lib.hid (X1.out.grown g2 (by intro e; injection e with e; omega))
  have R2 := Lib.hid (row_apart R1.out g2 (by omega))
  have G2 := Lib.hid (grown_trans' G1.out g2)
  have H2 := Lib.hid h2
  have z2 : w.heap.size + 2 ≤ w2.heap.size := by have := g2.size; simp at this; omega
  have x9 : x ≤ 9 := by omega
  clear H1 X1 R1 G1 g2 h2
  go_wp2_with fail
  go_loopw [5, 6, 7] (fun v a i wr => ∃ (k : Nat) (xs : List Int) (at_ : Int), k ≤ 8 ∧ (k : Int) ≤ m.C ∧ Hid (xs.length = k) ∧ i = .int .i64 k ∧ a = .int .i64 at_ ∧ -9 * (k : Int) ≤ at_ ∧ at_ ≤ 9 + 9 * (k : Int) ∧
      Hid (wr.ownsRow (w.heap.size + 1) 2 1 v k (listI xs)) ∧ Hid (Src wr B g A n c) ∧ Hid (w.grownBy wr (some g)) ∧ Hid (Boxed wr w.heap.size 25 m) ∧ w.heap.size + 2 ≤ wr.heap.size) (fun _ _ i _ => 9 - (intOf i).toNat)
  case atStart => exact ⟨0, [], x, by omega, by omega, Lib.hid rfl, rfl, rfl, by omega, by omega, R2, H2, G2, X2, z2⟩
  case round =>
    clear R2 H2 G2 X2
    obtain ⟨k, xs, at_, hk, hkC, HX, rfl, rfl, a0, a1, HO, HS, HG, HB, hz⟩ := hrel
    obtain ⟨q0, q1, q2, q3, q4⟩ := HB.out.cells
    by_cases hlt : (k : Int) < m.C
    · have hsl := HS.out.lt
      go_wp2_with (at_builtin; refine wpList_append_lies _ rfl _ _ 26 rfl (w.heap.size + 1) 2 i0 _ 1 8 Try.underlying26 HI.out.1 HI.out.2.1 HI.out.2.2.1 HI.out.2.2.2 rfl (by omega) _ k _ rfl (HO.out.alloc _) ⟨wr.heap.size, 0, none⟩ 1 1 [.int .i64 at_] rfl rfl (World.news_of_block (cs := #[.int .i64 at_]) (t := 2) (fr := (0, 0)) (heap_alloc_new wr _)) (by simp [Value.oneCell']) (by omega) (by unfold maxLen; omega) (by omega) (by simp; omega) (wr.heap.size + 1) (by simp) ?_; intro gg cap w5 hown1 hgrow hat hlt3)
      have R5 := Lib.hid hown1
      have S5 := Lib.hid ((HS.out.alloc (.cells #[.int .i64 at_] 2)).apart hgrow (fun q e => by have := row_base HO.out q e; omega))
      have X5 := Lib.hid ((HB.out.alloc (.cells #[.int .i64 at_] 2)).grown hgrow (by intro e; have := row_base HO.out _ e.symm; omega))
      have G5 := Lib.hid (grown_own (grown_alloc HG.out (.cells #[.int .i64 at_] 2)) hgrow (fun q e => by have := row_base HO.out q e; omega))
      have Z5 : w.heap.size + 2 ≤ w5.heap.size := by have := hgrow.size; simp at this; omega
      clear hown1 hgrow hat hlt3 HO HS HB HG hz hsl q0 q1 q2 q3 q4
      obtain ⟨q0, q1, q2, q3, q4⟩ := X5.out.cells
      have e1 : IntKind.i64.wrap (2 * m.S) = 2 * m.S := by rw [IntKind.wrap_i64]; omega
      have e2 : IntKind.i64.wrap (2 * m.S + 1) = 2 * m.S + 1 := by rw [IntKind.wrap_i64]; omega
      go_region_held3 (fun w' => w'.cell? ⟨w.heap.size, 0, none⟩ = some (.int .i64 m.C) ∧ w'.cell? ⟨w.heap.size, 1, none⟩ = some (.int .i64 m.D) ∧ w'.cell? ⟨w.heap.size, 2, none⟩ = some (.int .i64 m.S) ∧ w'.cell? ⟨w.heap.size, 3, none⟩ = some (.int .i64 m.M) ∧ w'.cell? ⟨w.heap.size, 4, none⟩ = some (.int .i64 m.L))
        (first
          | go_keep
          | exact X6.out.cells)
        (first
          | (go_at_call 56; refine (l01Next_any B g A n c _ _ (S5.out.drewN 1) (by omega)).mono ?_; rintro e w6 ⟨p, rfl, p0, p1, S6, g6⟩; have p9 : p ≤ 18 := (by omega); have e3 : IntKind.i64.wrap (at_ + p) = at_ + p := (wrap_small (by omega) (by omega)); have e4 : IntKind.i64.wrap (at_ + p - m.S) = at_ + p - m.S := (wrap_small (by omega) (by omega)); have X6 := Lib.hid ((X5.out.drewN 1).grown g6 (by intro e; injection e with e; omega))))
      have R6 := Lib.hid (row_apart (w := w5.drewN 1) R5.out g6 (by omega))
      have G6 := Lib.hid (grown_trans' (grown_drewN G5.out 1) g6)
      have H6 := Lib.hid S6
      have z6 : w.heap.size + 2 ≤ w6.heap.size := by have := g6.size; simp at this; omega
      have y0 : -9 * ((k + 1 : Nat) : Int) ≤ at_ + p - m.S := by omega
      have y1 : at_ + p - m.S ≤ 9 + 9 * ((k + 1 : Nat) : Int) := by omega
      clear R5 S5 X5 G5 Z5 g6 S6 q0 q1 q2 q3 q4 e1 e2 e3 e4 p1
      generalize at_ + p - m.S = y at *
      go_wp2_with fail
      refine (l01Next_any B g A n c _ _ H6.out (by omega)).mono ?_
      rintro e w7 ⟨t, rfl, t0, t9, h7, g7⟩
      have R7 := Lib.hid (row_apart R6.out g7 (by omega))
      have G7 := Lib.hid (grown_trans' G6.out g7)
      have X7 := Lib.hid (X6.out.grown g7 (by intro e; injection e with e; omega))
      have H7 := Lib.hid h7
      have z7 : w.heap.size + 2 ≤ w7.heap.size := by have := g7.size; omega
      clear R6 G6 X6 H6 g7 h7 t9
      by_cases ht : 0 < t
      · obtain ⟨z, hz, hz0, hz1⟩ : ∃ z : Int, (if 0 < (if y < m.D - 1 then y else m.D - 1) then (if y < m.D - 1 then y else m.D - 1) else 0) = z ∧ 0 ≤ z ∧ z ≤ 9 := ⟨_, rfl, by split <;> omega, by split <;> split <;> omega⟩
        obtain ⟨q0, q1, q2, q3, q4⟩ := X7.out.cells
        go_wp2
        go_roundw
        case rel => exact ⟨k + 1, xs ++ [at_], z, by omega, by omega, Lib.hid (by rw [List.length_append, HX.out]; rfl), by go_num, by go_num, by omega, by omega, Lib.hid (by rw [← listI_snoc]; exact R7.out), H7, G7, X7, z7⟩
        case measure => simp [intOf]; omega
      · go_wp2
        go_roundw
        case rel => exact ⟨k + 1, xs ++ [at_], y, by omega, by omega, Lib.hid (by rw [List.length_append, HX.out]; rfl), by go_num, by go_num, by omega, by omega, Lib.hid (by rw [← listI_snoc]; exact R7.out), H7, G7, X7, z7⟩
        case measure => simp [intOf]; omega
    · have hsl := HS.out.lt
      go_wp2_with fail
      clear q0 q1 q2 q3 q4
      refine (l01Next_any B g A n c _ _ HS.out (by omega)).mono ?_
      rintro e w7 ⟨t, rfl, t0, t9, h7, g7⟩
      have R7 := Lib.hid (row_apart HO.out g7 (by omega))
      have G7 := Lib.hid (grown_trans' HG.out g7)
      have H7 := Lib.hid h7
      have z7 : w.heap.size + 2 ≤ w7.heap.size := by have := g7.size; omega
      have hg7 := h7.lt
      clear HO HG HS HB g7 h7 t9 hsl
      by_cases ht : t = 0
      · subst ht
        go_wp2_with (at_builtin; refine wpList_append_lies _ rfl _ _ 26 rfl (w.heap.size + 1) 2 i0 _ 1 8 Try.underlying26 HI.out.1 HI.out.2.1 HI.out.2.2.1 HI.out.2.2.2 rfl (by omega) _ k _ rfl (R7.out.alloc _) ⟨w7.heap.size, 0, none⟩ 1 1 [.int .i64 0] rfl rfl (World.news_of_block (cs := #[.int .i64 0]) (t := 2) (fr := (0, 0)) (heap_alloc_new w7 _)) (by simp [Value.oneCell']) (by omega) (by unfold maxLen; omega) (by omega) (by simp; omega) (w7.heap.size + 1) (by simp) ?_; intro gg cap w5 hown1 hgrow hat hlt3)
        have S5 := Lib.hid ((H7.out.alloc (.cells #[.int .i64 0] 2)).apart hgrow (fun q e => by have := row_base R7.out q e; omega))
        have G5 := Lib.hid (grown_own (grown_alloc G7.out (.cells #[.int .i64 0] 2)) hgrow (fun q e => by have := row_base R7.out q e; omega))
        rw [listI_snoc] at hown1
        obtain ⟨A5, c5, e5, ho5, hk5, hc5⟩ := row_full hown1 (by rw [List.length_append, HX.out]; rfl)
        injection e5 with e6 e7 e8
        subst e6; subst e8
        have HO5 := Lib.hid ho5
        clear hown1 hgrow hat hlt3 ho5 R7 G7 H7
        go_wp2
        go_ret
        exact ⟨_, k + 1, cap, _, rfl, HO5.out.more (by omega) (Nat.le_refl _) (Nat.le_refl _), by omega, hk5, hc5, S5.out, G5.out⟩
      · have tb : (t == 0) = false := by simpa using ht
        obtain ⟨A5, c5, rfl, ho5, hk5, hc5⟩ := row_full R7.out HX.out
        have HO5 := Lib.hid ho5
        clear ho5
        go_wp2
        go_ret
        exact ⟨_, k, _, _, rfl, HO5.out.more (by omega) (Nat.le_refl _) (Nat.le_refl _), by omega, hk5, hc5, H7.out, G7.out⟩

end Go.Proofs.Ytlgaocjcfdfhmaa
