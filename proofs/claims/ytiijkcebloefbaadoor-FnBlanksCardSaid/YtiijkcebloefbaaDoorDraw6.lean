/- Draws of chapter 6: a profile, keyways, and what the laws draw. -/
import Derived.Test.YtiijkcebloefbaaDoorDamage
import Derived.Test.YtiijkcebloefbaaDoorWay
import Derived.Test.YtiijkcebloefbaaDoorPRead
namespace Go.Proofs.YtiijkcebloefbaaDoor
open Go.RowKit

set_option maxHeartbeats 1000000 in
theorem drawProfile_any (B g : Nat) (A : Option Addr) (n c : Nat) (w : World) (h : Src w B g A n c) :
    Calls Tryd.prog 29 #[.pointer (some ⟨g, 0, none⟩)] w (DrawnIn w B g A n c (-1) 4096) := by
  go_enter Tryd.func29, Tryd.ntmps29
  go_wp2_with fail
  refine (l01Next_any B g A n c _ _ h (by omega)).mono ?_
  rintro e w1 ⟨r, rfl, r0, r1, h1, g1⟩
  clear r1
  by_cases hr : r = 0
  · have b0 : (r == 0) = true := by simpa using hr
    have HI := Lib.hid (ints_new w1 [-1, 0, 4095, 4096] 2)
    have HS := Lib.hid (h1.alloc (.cells ([-1, 0, 4095, 4096].map (Value.int .i64)).toArray 2))
    have HG := Lib.hid (grown_alloc g1 (.cells ([-1, 0, 4095, 4096].map (Value.int .i64)).toArray 2))
    have hlt := h1.lt
    clear hr h1 g1
    go_wp2_with fail
    refine (l01Pick_any B g A n c _ _ _ _ _ HS.out HI.out (fun ad e => by injection e with e; subst e; simp; omega) (by simp) (by simp)).mono ?_
    rintro e w2 ⟨x, rfl, hx, h2, g2⟩
    have g3 := grown_trans' HG.out g2
    have x0 : -1 ≤ x ∧ x ≤ 4096 := by
      simp only [List.mem_cons, List.mem_nil_iff, or_false] at hx
      omega
    obtain ⟨x0, x1⟩ := x0
    clear hx HI HS HG g2
    go_wp2
    go_ret
    exact ⟨x, rfl, x0, x1, h2, g3⟩
  · have b0 : (r == 0) = false := by simpa using hr
    clear hr
    go_wp2_with fail
    refine (l01Next_any B g A n c _ _ h1 (by omega)).mono ?_
    rintro e w2 ⟨p, rfl, p0, p1, h2, g2⟩
    have G2 := grown_trans' g1 g2
    clear g1 g2 h1
    go_wp2_with fail
    refine (l01Next_any B g A n c _ _ h2 (by omega)).mono ?_
    rintro e w3 ⟨q, rfl, q0, q1, h3, g3⟩
    have G3 := grown_trans' G2 g3
    clear G2 g3 h2
    go_wp2_with fail
    refine (l01Next_any B g A n c _ _ h3 (by omega)).mono ?_
    rintro e w4 ⟨u, rfl, u0, u1, h4, g4⟩
    have G4 := grown_trans' G3 g4
    clear G3 g4 h3
    have p2 : p ≤ 4095 := by omega
    have q2 : q ≤ 63 := by omega
    have u2 : u ≤ 63 := by omega
    have HI := Lib.hid (ints_new w4 [p, q, 4095 - u] 2)
    have HS := Lib.hid (h4.alloc (.cells ([p, q, 4095 - u].map (Value.int .i64)).toArray 2))
    have HG := Lib.hid (grown_alloc G4 (.cells ([p, q, 4095 - u].map (Value.int .i64)).toArray 2))
    have hlt := h4.lt
    clear h4 G4 p1 q1 u1
    go_wp2_with fail
    refine (l01Pick_any B g A n c _ _ _ _ _ HS.out HI.out (fun ad e => by injection e with e; subst e; simp; omega) (by simp) (by simp)).mono ?_
    rintro e w5 ⟨x, rfl, hx, h5, g5⟩
    have g6 := grown_trans' HG.out g5
    have x0 : -1 ≤ x ∧ x ≤ 4096 := by
      simp only [List.mem_cons, List.mem_nil_iff, or_false] at hx
      omega
    obtain ⟨x0, x1⟩ := x0
    clear hx HI HS HG g5
    go_wp2
    go_ret
    exact ⟨x, rfl, x0, x1, h5, g6⟩

set_option maxHeartbeats 4000000 in
theorem drawWays_any (B g : Nat) (A : Option Addr) (n c : Nat) (w : World) (h : Src w B g A n c) :
    Calls Tryd.prog 20 #[.pointer (some ⟨g, 0, none⟩)] w (DrawnOwn w B g A n c) := by
  have hg1 := h.lt
  obtain ⟨i0, hi, hz0, hz1, hz2⟩ := info_parts Tryd.info2'
  have HI := Lib.hid (And.intro hi (And.intro hz0 (And.intro hz1 hz2)))
  clear hi hz0 hz1 hz2
  have H1 := Lib.hid (h.alloc (.cells #[] 2))
  have R1 : Hid ((w.alloc (.cells #[] 2)).ownsRow w.heap.size 2 1 (.slice (some ⟨w.heap.size, 0, none⟩) 0 0) 0 (listI [])) := Lib.hid (row_empty (Nat.le_refl _))
  have G1 := Lib.hid (grown_alloc (World.grownBy.refl w (some g)) (.cells #[] 2))
  clear h
  go_enter Tryd.func20, Tryd.ntmps20
  go_wp2_with fail
  refine (l01Next_any B g A n c _ _ H1.out (by omega)).mono ?_
  rintro e w2 ⟨x, rfl, x0, x1, h2, gr2⟩
  have R2 := Lib.hid (row_apart R1.out gr2 hg1)
  have G2 := grown_trans' G1.out gr2
  have gr2s := gr2.size
  have x2 : x ≤ 5 := by omega
  clear H1 R1 G1 gr2 x1
  go_wp2_with fail
  go_loopw [3, 4] (fun v m wr => ∃ (k : Nat) (xs : List Int), k ≤ 5 ∧ (k : Int) ≤ x ∧ xs.length = k ∧ m = .int .i64 (x - k) ∧
      wr.ownsRow w.heap.size 2 1 v k (listI xs) ∧ Src wr B g A n c ∧ w.grownBy wr (some g) ∧ w.heap.size + 1 ≤ wr.heap.size) (fun _ m _ => (intOf m).toNat)
  case atStart => exact ⟨0, [], Nat.zero_le _, by omega, rfl, by go_num, R2.out, h2, G2, by have := gr2s; simp at this; omega⟩
  case round =>
    obtain ⟨k, xs, hk, hkx, hxl, rfl, hown, hs, hgw, hw1⟩ := hrel
    have HO := Lib.hid hown
    have HX := Lib.hid hxl
    clear hown hxl R2 h2 G2
    by_cases hlt : (k : Int) < x
    · go_wp2_with fail
      refine (drawProfile_any B g A n c _ hs).mono ?_
      rintro e w3 ⟨r, rfl, r0, r1, h3, g3⟩
      have O3 := Lib.hid (row_apart HO.out g3 hg1)
      have G3 := Lib.hid (grown_trans' hgw g3)
      have S3 := Lib.hid h3
      have hs3 := g3.size
      have hl3 := h3.lt
      clear HO g3 hgw hs h3
      go_wp2_with fail
      refine (l01Next_any B g A n c _ _ S3.out (by omega)).mono ?_
      rintro e w4 ⟨y, rfl, y0, y1, h4, g4⟩
      have O4 := Lib.hid (row_apart O3.out g4 hg1)
      have G4 := Lib.hid (grown_trans' G3.out g4)
      have S4 := Lib.hid h4
      have hs4 := g4.size
      have hl4 := h4.lt
      obtain ⟨z, hz⟩ : ∃ z, bits .or .i64 r y = z := ⟨_, rfl⟩
      clear O3 g4 G3 S3 h4 y1 r0 r1
      go_wp2_with (at_builtin; refine wpList_append_lies _ rfl _ _ 24 rfl w.heap.size 2 i0 _ 1 8 Tryd.underlying24 HI.out.1 HI.out.2.1 HI.out.2.2.1 HI.out.2.2.2 rfl (by omega) _ k _ rfl (O4.out.alloc _) ⟨w4.heap.size, 0, none⟩ 1 1 [.int .i64 z] rfl rfl (World.news_of_block (cs := #[.int .i64 z]) (t := 2) (fr := (0, 0)) (heap_alloc_new w4 _)) (by simp [Value.oneCell']) (by omega) (by unfold maxLen; omega) (by omega) (by simp; omega) (w4.heap.size + 1) (by simp) ?_; intro gg cap w5 hown1 hgrow hat hlt3)
      have R5 := Lib.hid hown1
      have S5 := Lib.hid ((S4.out.alloc (.cells #[.int .i64 z] 2)).apart hgrow (fun q e => by have := row_base O4.out q e; omega))
      have G5 := Lib.hid (grown_own (grown_alloc G4.out (.cells #[.int .i64 z] 2)) hgrow (fun q e => row_base O4.out q e))
      have Z5 : w.heap.size + 1 ≤ w5.heap.size := by have := hgrow.size; simp at this; omega
      clear hown1 hgrow hat hlt3 O4 S4 G4 hz
      go_wp2
      go_roundw
      case rel => exact ⟨k + 1, xs ++ [z], by omega, by omega, by rw [List.length_append, HX.out]; rfl, by go_num, by rw [← listI_snoc]; exact R5.out, S5.out, G5.out, Z5⟩
      case measure => simp [intOf]; omega
    · go_wp2_with fail
      refine (l01Next_any B g A n c _ _ hs (by omega)).mono ?_
      rintro e w3 ⟨q, rfl, q0, q1, h3, g3⟩
      have O3 := Lib.hid (row_apart HO.out g3 hg1)
      have G3 := Lib.hid (grown_trans' hgw g3)
      have hs3 := g3.size
      clear HO g3 hgw hs q1
      by_cases hq : q = 0
      · have b0 : (q == 0) = true := by simpa using hq
        clear hq
        obtain ⟨A', c', rfl, _⟩ := row_ints O3.out HX.out
        go_wp2_with fail
        go_loopw [3] (fun v wr => ∃ (A' : Option Addr) (k c' : Nat) (xs : List Int), v = .slice A' k c' ∧ k ≤ 101 ∧ xs.length = k ∧
            wr.ownsRow w.heap.size 2 1 v k (listI xs) ∧ Src wr B g A n c ∧ w.grownBy wr (some g) ∧ w.heap.size + 1 ≤ wr.heap.size) (fun v _ => 102 - lenOfV v)
        case atStart => exact ⟨A', k, c', xs, rfl, by omega, HX.out, O3.out, h3, G3.out, by omega⟩
        case round =>
          clear h3 O3 G3 HX
          obtain ⟨A', k, c', xs, rfl, hk, hxl, hown, hs, hgw, hw1⟩ := hrel
          have HO := Lib.hid hown
          have HX := Lib.hid hxl
          clear hown hxl
          go_wp2_with fail
          refine (l01Next_any B g A n c _ _ hs (by omega)).mono ?_
          rintro e w3 ⟨y, rfl, y0, y1, h3, g3⟩
          have O3 := Lib.hid (row_apart HO.out g3 hg1)
          have G3 := Lib.hid (grown_trans' hgw g3)
          have hs3 := g3.size
          have y2 : y ≤ 1 := by omega
          clear HO g3 hgw hs y1
          by_cases hlt : (k : Int) < 8 + y
          · have S3 := Lib.hid h3
            have hl3 := h3.lt
            clear h3
            go_wp2_with (at_builtin; refine wpList_append_lies _ rfl _ _ 24 rfl w.heap.size 2 i0 _ 1 8 Tryd.underlying24 HI.out.1 HI.out.2.1 HI.out.2.2.1 HI.out.2.2.2 rfl (by omega) _ k _ rfl (O3.out.alloc _) ⟨w3.heap.size, 0, none⟩ 1 1 [.int .i64 7] rfl rfl (World.news_of_block (cs := #[.int .i64 7]) (t := 2) (fr := (0, 0)) (heap_alloc_new w3 _)) (by simp [Value.oneCell']) (by omega) (by unfold maxLen; omega) (by omega) (by simp; omega) (w3.heap.size + 1) (by simp) ?_; intro gg cap w5 hown1 hgrow hat hlt3)
            have R5 := Lib.hid hown1
            have S5 := Lib.hid ((S3.out.alloc (.cells #[.int .i64 7] 2)).apart hgrow (fun q e => by have := row_base O3.out q e; omega))
            have G5 := Lib.hid (grown_own (grown_alloc G3.out (.cells #[.int .i64 7] 2)) hgrow (fun q e => row_base O3.out q e))
            have Z5 : w.heap.size + 1 ≤ w5.heap.size := by have := hgrow.size; simp at this; omega
            clear hown1 hgrow hat hlt3 O3 S3 G3
            go_wp2
            go_roundw
            case rel => exact ⟨_, k + 1, _, xs ++ [7], rfl, by omega, by rw [List.length_append, HX.out]; rfl, by rw [← listI_snoc]; exact R5.out, S5.out, G5.out, Z5⟩
            case measure => simp [lenOfV]; omega
          · obtain ⟨A2, c2, e2, ho⟩ := row_ints O3.out HX.out
            injection e2 with e3 e4 e5
            subst e3; subst e5
            have HO := Lib.hid ho
            have hkc := row_cap O3.out
            clear ho
            go_wp2
            go_ret
            exact ⟨_, k, _, xs, rfl, HO.out, by omega, hkc, h3, G3.out⟩
      · have b0 : (q == 0) = false := by simpa using hq
        clear hq
        obtain ⟨A', c', rfl, ho⟩ := row_ints O3.out HX.out
        have HO := Lib.hid ho
        have hkc := row_cap O3.out
        clear ho
        go_wp2
        go_ret
        exact ⟨A', k, c', xs, rfl, HO.out, by omega, hkc, h3, G3.out⟩

/-- what the draw of two numbers answers -/
def DrawnPair (w : World) (e : Ending) (w' : World) : Prop := ∃ a b : Int, e = .returned (.tuple #[.int .i64 a, .int .i64 b]) ∧ Below w.heap.size w w'
/-- what the draw of a number and a list answers -/
def DrawnIL (w : World) (e : Ending) (w' : World) : Prop := ∃ (r : Int) (A' : Option Addr) (m c' : Nat) (xs : List Int), e = .returned (.tuple #[.int .i64 r, .slice A' m c']) ∧ Own w' w.heap.size w'.heap.size A' m xs ∧ m ≤ 101 ∧ m ≤ c' ∧ Below w.heap.size w w'
def DrawnOne (w : World) (e : Ending) (w' : World) : Prop := ∃ r : Int, e = .returned (.int .i64 r) ∧ Below w.heap.size w w'
def DrawnPText (w : World) (m : Nat) (e : Ending) (w' : World) : Prop := ∃ t : ByteArray, e = .returned (.string t) ∧ t.size ≤ m ∧ Below w.heap.size w w'

set_option maxHeartbeats 2000000 in
theorem drawCountBlanks_any (B : Nat) (A : Option Addr) (n c : Nat) (w : World) (hb : Bts w B A n) (hB : B ≤ w.heap.size) (hn : n ≤ 4096) :
    Calls Tryd.prog 13 #[.slice A n c] w (DrawnOne w) := by
  go_enter Tryd.func13, Tryd.ntmps13
  go_wp2_with fail
  refine (l01From_any B A n c _ hb hB hn).mono ?_
  rintro e w1 ⟨g, rfl, hg, hg1, h1, b1⟩
  have s1 := b1.size
  have B1 := Lib.hid b1
  clear b1
  go_wp2_with fail
  refine (drawProfile_any B g A n c _ h1).mono ?_
  rintro e w2 ⟨r, rfl, _, _, h2, g2⟩
  have b2 := below_grown B1.out g2 (fun q e => by injection e with e; omega)
  go_wp2
  go_ret
  exact ⟨r, rfl, b2⟩

end Go.Proofs.YtiijkcebloefbaaDoor
