/- The draws for DigitsOf and NumberOf. -/
import Derived.Test.YtnonmjllopcaeaaDraw3
namespace Go.Proofs.Ytnonmjllopcaeaa
open Go.RowKit

def allB (lo hi : Int) (xs : List Int) : Prop := ∀ v ∈ xs, lo ≤ v ∧ v ≤ hi
theorem allB_nil (lo hi : Int) : allB lo hi [] := fun _ h => by cases h
theorem allB_snoc {lo hi v : Int} {xs : List Int} (h : allB lo hi xs) (h1 : lo ≤ v) (h2 : v ≤ hi) : allB lo hi (xs ++ [v]) := by
  intro u hu
  rw [List.mem_append] at hu
  rcases hu with hu | hu
  · exact h u hu
  · simp only [List.mem_singleton] at hu
    subst hu
    exact ⟨h1, h2⟩

/-- what a draw of bases answers -/
def DrawnBases (w : World) (B g : Nat) (A : Option Addr) (n c : Nat) (e : Ending) (w' : World) : Prop :=
  ∃ A' m c' xs, e = .returned (.slice A' m c') ∧ w'.ownsRow w.heap.size 2 1 (.slice A' m c') m (listI xs) ∧ xs.length = m ∧ m ≤ 6 ∧ allB (-1) 101 xs ∧ Src w' B g A n c ∧ w.grownBy w' (some g) ∧ w.heap.size + 1 ≤ w'.heap.size

set_option maxHeartbeats 4000000 in
theorem drawBases_any (B g : Nat) (A : Option Addr) (n c : Nat) (w : World) (h : Src w B g A n c) :
    Calls Try.prog 51 #[.pointer (some ⟨g, 0, none⟩)] w (DrawnBases w B g A n c) := by
  have hg1 := h.lt
  obtain ⟨i0, hi, hz0, hz1, hz2⟩ := info_parts Try.info2'
  have HI := Lib.hid (And.intro hi (And.intro hz0 (And.intro hz1 hz2)))
  clear hi hz0 hz1 hz2
  have H1 := Lib.hid (h.alloc (.cells #[] 2))
  have R1 : Hid ((w.alloc (.cells #[] 2)).ownsRow w.heap.size 2 1 (.slice (some ⟨w.heap.size, 0, none⟩) 0 0) 0 (listI [])) := Lib.hid (row_empty (Nat.le_refl _))
  have G1 := Lib.hid (grown_alloc (World.grownBy.refl w (some g)) (.cells #[] 2))
  clear h
  go_enter Try.func51, Try.ntmps51
  go_wp2_with fail
  refine (l01Next_any B g A n c _ _ H1.out (by omega)).mono ?_
  rintro e w2 ⟨x, rfl, x0, x1, h2, gr2⟩
  have R2 := Lib.hid (row_apart R1.out gr2 hg1)
  have G2 := grown_trans' G1.out gr2
  have gr2s := gr2.size
  have x2 : x ≤ 5 := by omega
  clear H1 R1 G1 gr2 x1
  go_wp2_with fail
  go_loopw [3, 4] (fun v m wr => ∃ (k : Nat) (xs : List Int), k ≤ 5 ∧ (k : Int) ≤ x ∧ xs.length = k ∧ m = .int .i64 (x - k) ∧
      wr.ownsRow w.heap.size 2 1 v k (listI xs) ∧ allB (-1) 101 xs ∧ Src wr B g A n c ∧ w.grownBy wr (some g) ∧ w.heap.size + 1 ≤ wr.heap.size) (fun _ m _ => (intOf m).toNat)
  case atStart => exact ⟨0, [], Nat.zero_le _, by omega, rfl, by go_num, R2.out, allB_nil _ _, h2, G2, by have := gr2s; simp at this; omega⟩
  case round =>
    obtain ⟨k, xs, hk, hkx, hxl, rfl, hown, hal, hs, hgw, hw1⟩ := hrel
    have HO := Lib.hid hown
    have HX := Lib.hid hxl
    have HA := Lib.hid hal
    clear hown hxl hal R2 h2 G2
    by_cases hlt : (k : Int) < x
    · go_wp2_with fail
      refine (l01Next_any B g A n c _ _ hs (by omega)).mono ?_
      rintro e w3 ⟨r, rfl, r0, r1, h3, g3⟩
      have r2 : r ≤ 99 := by omega
      have O3 := Lib.hid (row_apart HO.out g3 hg1)
      have G3 := Lib.hid (grown_trans' hgw g3)
      have hs3 := g3.size
      have hl3 := h3.lt
      have HN := Lib.hid (ints_new w3 [1, 2, 3, 10, 1 + r] 2)
      have HS := Lib.hid (h3.alloc (.cells ([1, 2, 3, 10, 1 + r].map (Value.int .i64)).toArray 2))
      have HG := Lib.hid (grown_alloc G3.out (.cells ([1, 2, 3, 10, 1 + r].map (Value.int .i64)).toArray 2))
      have HR := Lib.hid (O3.out.alloc (.cells ([1, 2, 3, 10, 1 + r].map (Value.int .i64)).toArray 2))
      clear HO g3 hgw hs h3 r1 O3 G3
      go_wp2_with fail
      refine (l01Pick_any B g A n c _ _ _ _ _ HS.out HN.out (fun ad e => by injection e with e; subst e; simp; omega) (by simp) (by simp)).mono ?_
      rintro e w4 ⟨y, rfl, hy, h4, g4⟩
      have y0 : -1 ≤ y ∧ y ≤ 101 := by
        simp only [List.mem_cons, List.mem_nil_iff, or_false] at hy
        omega
      obtain ⟨y0, y1⟩ := y0
      have O4 := Lib.hid (row_apart HR.out g4 hg1)
      have G4 := Lib.hid (grown_trans' HG.out g4)
      have S4 := Lib.hid h4
      have hl4 := h4.lt
      have hz4 : w.heap.size + 1 ≤ w4.heap.size := by have := g4.size; simp at this; omega
      clear HN HS HG HR hy h4 g4
      go_wp2_with (at_builtin; refine wpList_append_lies _ rfl _ _ 24 rfl w.heap.size 2 i0 _ 1 8 Try.underlying24 HI.out.1 HI.out.2.1 HI.out.2.2.1 HI.out.2.2.2 rfl (by omega) _ k _ rfl (O4.out.alloc _) ⟨w4.heap.size, 0, none⟩ 1 1 [.int .i64 y] rfl rfl (World.news_of_block (cs := #[.int .i64 y]) (t := 2) (fr := (0, 0)) (heap_alloc_new w4 _)) (by simp [Value.oneCell']) (by omega) (by unfold maxLen; omega) (by omega) (by simp; omega) (w4.heap.size + 1) (by simp) ?_; intro gg cap w5 hown1 hgrow hat hlt3)
      have R5 := Lib.hid hown1
      have S5 := Lib.hid ((S4.out.alloc (.cells #[.int .i64 y] 2)).apart hgrow (fun q e => by have := row_base O4.out q e; omega))
      have G5 := Lib.hid (grown_own (grown_alloc G4.out (.cells #[.int .i64 y] 2)) hgrow (fun q e => row_base O4.out q e))
      have Z5 : w.heap.size + 1 ≤ w5.heap.size := by have := hgrow.size; simp at this; omega
      clear hown1 hgrow hat hlt3 O4 S4 G4
      go_wp2
      go_roundw
      case rel => exact ⟨k + 1, xs ++ [y], by omega, by omega, by rw [List.length_append, HX.out]; rfl, by go_num, by rw [← listI_snoc]; exact R5.out, allB_snoc HA.out y0 y1, S5.out, G5.out, Z5⟩
      case measure => simp [intOf]; omega
    · go_wp2_with fail
      refine (l01Next_any B g A n c _ _ hs (by omega)).mono ?_
      rintro e w3 ⟨q, rfl, q0, q1, h3, g3⟩
      have O3 := Lib.hid (row_apart HO.out g3 hg1)
      have G3 := Lib.hid (grown_trans' hgw g3)
      have hs3 := g3.size
      have hl3 := h3.lt
      clear HO g3 hgw hs q1
      by_cases hq : q = 0
      · have b0 : (q == 0) = true := by simpa using hq
        have HN := Lib.hid (ints_new w3 [0, 101, -1, 100, 100] 2)
        have HS := Lib.hid (h3.alloc (.cells ([0, 101, -1, 100, 100].map (Value.int .i64)).toArray 2))
        have HG := Lib.hid (grown_alloc G3.out (.cells ([0, 101, -1, 100, 100].map (Value.int .i64)).toArray 2))
        have HR := Lib.hid (O3.out.alloc (.cells ([0, 101, -1, 100, 100].map (Value.int .i64)).toArray 2))
        clear hq h3 O3 G3
        go_wp2_with fail
        refine (l01Pick_any B g A n c _ _ _ _ _ HS.out HN.out (fun ad e => by injection e with e; subst e; simp; omega) (by simp) (by simp)).mono ?_
        rintro e w4 ⟨y, rfl, hy, h4, g4⟩
        have y0 : -1 ≤ y ∧ y ≤ 101 := by
          simp only [List.mem_cons, List.mem_nil_iff, or_false] at hy
          omega
        obtain ⟨y0, y1⟩ := y0
        have O4 := Lib.hid (row_apart HR.out g4 hg1)
        have G4 := Lib.hid (grown_trans' HG.out g4)
        have S4 := Lib.hid h4
        have hl4 := h4.lt
        have hz4 : w.heap.size + 1 ≤ w4.heap.size := by have := g4.size; simp at this; omega
        clear HN HS HG HR hy h4 g4
        go_wp2_with (at_builtin; refine wpList_append_lies _ rfl _ _ 24 rfl w.heap.size 2 i0 _ 1 8 Try.underlying24 HI.out.1 HI.out.2.1 HI.out.2.2.1 HI.out.2.2.2 rfl (by omega) _ k _ rfl (O4.out.alloc _) ⟨w4.heap.size, 0, none⟩ 1 1 [.int .i64 y] rfl rfl (World.news_of_block (cs := #[.int .i64 y]) (t := 2) (fr := (0, 0)) (heap_alloc_new w4 _)) (by simp [Value.oneCell']) (by omega) (by unfold maxLen; omega) (by omega) (by simp; omega) (w4.heap.size + 1) (by simp) ?_; intro gg cap w5 hown1 hgrow hat hlt3)
        have R5 := Lib.hid hown1
        have S5 := (S4.out.alloc (.cells #[.int .i64 y] 2)).apart hgrow (fun q e => by have := row_base O4.out q e; omega)
        have G5 := Lib.hid (grown_own (grown_alloc G4.out (.cells #[.int .i64 y] 2)) hgrow (fun q e => row_base O4.out q e))
        have Z5 : w.heap.size + 1 ≤ w5.heap.size := by have := hgrow.size; simp at this; omega
        clear hown1 hgrow hat hlt3 O4 S4 G4
        go_wp2
        go_ret
        exact ⟨_, k + 1, _, xs ++ [y], rfl, by rw [← listI_snoc]; exact R5.out, by rw [List.length_append, HX.out]; rfl, by omega, allB_snoc HA.out y0 y1, S5, G5.out, Z5⟩
      · have b0 : (q == 0) = false := by simpa using hq
        clear hq
        obtain ⟨A', c', rfl, ho⟩ := row_ints O3.out HX.out
        clear ho
        go_wp2
        go_ret
        exact ⟨A', k, c', xs, rfl, O3.out, HX.out, by omega, HA.out, h3, G3.out, by omega⟩

/-- what the draw for DigitsOf answers -/
def DrawnDigits (w : World) (e : Ending) (w' : World) : Prop :=
  ∃ r A m c xs, e = .returned (.tuple #[.int .i64 r, .slice A m c]) ∧ Own w' w.heap.size w'.heap.size A m xs ∧ m ≤ 6 ∧ Below w.heap.size w w'

theorem drawDigits_any (B : Nat) (A : Option Addr) (n c : Nat) (w : World) (hb : Bts w B A n) (hB : B ≤ w.heap.size) (hn : n ≤ 4096) :
    Calls Try.prog 24 #[.slice A n c] w (DrawnDigits w) := by
  have HB := Lib.hid hb
  clear hb
  go_enter Try.func24, Try.ntmps24
  go_wp2_with fail
  refine (l01From_any B A n c _ HB.out hB hn).mono ?_
  rintro e w1 ⟨g, rfl, hg, hg1, h1, b1⟩
  have s1 := b1.size
  go_wp2_with fail
  refine (drawBases_any B g A n c _ h1).mono ?_
  rintro e w2 ⟨D, m, d, xs, rfl, hr, hl, hm, ha, h2, g2, z2⟩
  have R2 := Lib.hid hr
  have HL := Lib.hid hl
  have b2 := below_grown b1 g2 (fun q e => by injection e with e; omega)
  clear hr hl ha b1 h1 g2
  go_wp2_with fail
  refine (drawNumber_any B g A n c _ h2).mono ?_
  rintro e w3 ⟨r, rfl, r0, r1, h3, g3⟩
  have R3 := Lib.hid (row_apart R2.out g3 hg1)
  have b3 := below_grown b2 g3 (fun q e => by injection e with e; omega)
  obtain ⟨A', c', e', ho⟩ := row_ints R3.out HL.out
  injection e' with e1 e2 e3
  subst e1; subst e3
  have HO := Lib.hid (ho.more s1 (Nat.le_refl _) (Nat.le_refl _))
  clear ho e2 R2 R3 h2 b2 g3
  go_wp2
  go_ret2
  exact ⟨r, _, m, _, xs, rfl, HO.out, hm, b3⟩

end Go.Proofs.Ytnonmjllopcaeaa
