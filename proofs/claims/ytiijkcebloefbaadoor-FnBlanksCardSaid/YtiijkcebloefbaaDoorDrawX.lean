/- The draw of keyways and of indices. -/
import Derived.Test.YtiijkcebloefbaaDoorDraw6
import Derived.Test.YtiijkcebloefbaaDoorWays
namespace Go.Proofs.YtiijkcebloefbaaDoor
open Go.RowKit

/-- what the draw of two lists answers -/
def DrawnLL (w : World) (e : Ending) (w' : World) : Prop := ∃ (A1 : Option Addr) (m1 c1 : Nat) (xs : List Int) (A2 : Option Addr) (m2 c2 : Nat) (ys : List Int), e = .returned (.tuple #[.slice A1 m1 c1, .slice A2 m2 c2]) ∧ Ints w' w'.heap.size A1 m1 xs ∧ Ints w' w'.heap.size A2 m2 ys ∧ m1 ≤ 101 ∧ m2 ≤ 200 ∧ Below w.heap.size w w'

set_option maxRecDepth 100000 in
set_option maxHeartbeats 8000000 in
theorem drawExact_any (B : Nat) (A : Option Addr) (n c : Nat) (w : World) (hb : Bts w B A n) (hB : B ≤ w.heap.size) (hn : n ≤ 4096) :
    Calls Tryd.prog 6 #[.slice A n c] w (DrawnLL w) := by
  obtain ⟨i0, hi, hz0, hz1, hz2⟩ := info_parts Tryd.info2'
  have HI := Lib.hid (And.intro hi (And.intro hz0 (And.intro hz1 hz2)))
  clear hi hz0 hz1 hz2
  go_enter Tryd.func6, Tryd.ntmps6
  go_wp2_with fail
  refine (l01From_any B A n c _ hb hB hn).mono ?_
  rintro e w1 ⟨g, rfl, hg, hg1, h1, b1⟩
  have s1 := b1.size
  have B1 := Lib.hid b1
  clear b1
  go_wp2_with fail
  refine (drawWays_any B g A n c _ h1).mono ?_
  rintro e w2 ⟨D, m, d, ws, rfl, ox, hm, hmd, h2, g2⟩
  have B2 := Lib.hid (below_grown B1.out g2 (fun q e => by injection e with e; omega))
  have z2 := g2.size
  have HL := Lib.hid ox.len
  clear B1 g2 h1
  rcases hq : waysB ws with _ | _
  · go_wp2_with fail
    refine (l06Ways_any _ _ _ ws _ ox.ints (by omega)).mono ?_
    rw [hq]
    rintro e w' ⟨rfl, rfl⟩
    have hS := h2
    have hO := ox
    have hBl := B2.out
    clear h2 ox B2 hq
    obtain ⟨B0, hB0⟩ : ∃ B0, w2.heap.size = B0 := ⟨_, rfl⟩
    have R0 : Hid ((w2.alloc (.cells #[] 2)).ownsRow B0 2 1 (.slice (some ⟨B0, 0, none⟩) 0 0) 0 (listI [])) := Lib.hid (by rw [← hB0]; exact row_empty (Nat.le_refl _))
    have S0 := Lib.hid (hS.alloc (.cells #[] 2))
    have O0 := Lib.hid (hO.below ((Below.refl w2.heap.size w2).alloc (Nat.le_refl _) (.cells #[] 2)))
    have L0 := Lib.hid (hBl.alloc hBl.size (.cells #[] 2))
    have Z0 : Hid (B0 + 1 ≤ (w2.alloc (.cells #[] 2)).heap.size) := Lib.hid (by rw [← hB0]; simp)
    have hgB : g < B0 := by rw [← hB0]; exact hS.lt
    clear hS hO hBl
    go_wp2
    go_loopw [6, 7] (fun v i wr => ∃ (k q : Nat) (ys : List Int), k ≤ m ∧ q ≤ k ∧ i = .int .i64 k ∧ ys.length = q ∧ Hid (wr.ownsRow B0 2 1 v q (listI ys)) ∧ Hid (Src wr B g A n c) ∧ Hid (Own wr w1.heap.size w2.heap.size D m ws) ∧ Hid (Below w.heap.size w wr) ∧ B0 + 1 ≤ wr.heap.size) (fun _ i _ => m - (intOf i).toNat)
    case atStart => exact ⟨0, 0, [], Nat.zero_le _, Nat.le_refl _, rfl, rfl, R0, S0, O0, L0, Z0.out⟩
    case round =>
      clear R0 S0 O0 L0 Z0
      obtain ⟨k, q, ys, hk, hq, rfl, hyl, HR, HS, HOW, HBL, hz⟩ := hrel
      have HY := Lib.hid hyl
      clear hyl
      have hwg : w.heap.size ≤ B0 := by have := HBL.out.size; omega
      by_cases hlt : k < m
      · go_wp2_with fail
        refine (l01Next_any B g A n c _ _ HS.out (by omega)).mono ?_
        rintro e w6 ⟨y, rfl, y0, y1, h6, g6⟩
        have R6 := Lib.hid (row_apart HR.out g6 hgB)
        have O6 := Lib.hid (HOW.out.apart g6 (fun q e => by injection e with e; subst e; exact .inl hg1))
        have L6 := Lib.hid (below_grown HBL.out g6 (fun q e => by injection e with e; omega))
        have S6 := Lib.hid h6
        have z6 := g6.size
        have hg6 := h6.lt
        clear HR HOW HBL HS g6 h6 y1
        rcases k0 : (y == 0) with _ | _
        · go_wp2
          go_roundw
          case rel => exact ⟨k + 1, q, ys, by omega, by omega, by go_num, HY.out, R6, S6, O6, L6, by omega⟩
          case measure => simp [intOf]; omega
        · go_wp2_with (at_builtin; refine wpList_append_lies _ rfl _ _ 24 rfl B0 2 i0 _ 1 8 Tryd.underlying24 HI.out.1 HI.out.2.1 HI.out.2.2.1 HI.out.2.2.2 rfl (by omega) _ q _ rfl (R6.out.alloc _) ⟨w6.heap.size, 0, none⟩ 1 1 [.int .i64 (k : Int)] rfl rfl (World.news_of_block (cs := #[.int .i64 (k : Int)]) (t := 2) (fr := (0, 0)) (heap_alloc_new w6 _)) (by simp [Value.oneCell']) (by omega) (by unfold maxLen; omega) (by omega) (by simp; omega) (w6.heap.size + 1) (by simp) ?_; intro gg cap w7 hown1 hgrow hat hlt3)
          have R7 := Lib.hid hown1
          have S7 := Lib.hid ((S6.out.alloc (.cells #[.int .i64 (k : Int)] 2)).apart hgrow (fun q e => by have := row_base R6.out q e; omega))
          have O7 := Lib.hid ((O6.out.below ((Below.refl w6.heap.size w6).alloc (Nat.le_refl _) (.cells #[.int .i64 (k : Int)] 2))).apart hgrow (fun q e => .inr (by have := row_base R6.out q e; omega)))
          have L7 := Lib.hid ((L6.out.alloc L6.out.size (.cells #[.int .i64 (k : Int)] 2)).grown hgrow (by have := L6.out.size; simp; omega) (fun q e => by have := row_base R6.out q e; omega))
          have z7 : B0 + 1 ≤ w7.heap.size := by have := hgrow.size; simp at this; omega
          clear hown1 hgrow hat hlt3 R6 S6 O6 L6
          go_wp2
          go_roundw
          case rel => exact ⟨k + 1, q + 1, ys ++ [(k : Int)], by omega, by omega, by go_num, by rw [List.length_append, HY.out]; rfl, by rw [← listI_snoc]; exact R7, S7, O7, L7, z7⟩
          case measure => simp [intOf]; omega
      · go_wp2_with fail
        refine (l01Next_any B g A n c _ _ HS.out (by omega)).mono ?_
        rintro e w6 ⟨y, rfl, y0, y1, h6, g6⟩
        have R6 := Lib.hid (row_apart HR.out g6 hgB)
        have O6 := Lib.hid (HOW.out.apart g6 (fun q e => by injection e with e; subst e; exact .inl hg1))
        have L6 := Lib.hid (below_grown HBL.out g6 (fun q e => by injection e with e; omega))
        have z6 := g6.size
        clear HR HOW HBL HS g6 h6 y1
        rcases k0 : (y == 0) with _ | _
        · obtain ⟨A', c', rfl, ho⟩ := row_ints R6.out HY.out
          have HO2 := Lib.hid ho
          clear ho
          go_wp2
          go_ret2
          exact ⟨D, m, d, ws, A', q, c', ys, rfl, O6.out.ints, HO2.out.ints, hm, by omega, L6.out⟩
        · go_wp2_with (at_builtin; refine wpList_append_lies _ rfl _ _ 24 rfl B0 2 i0 _ 1 8 Tryd.underlying24 HI.out.1 HI.out.2.1 HI.out.2.2.1 HI.out.2.2.2 rfl (by omega) _ q _ rfl (R6.out.alloc _) ⟨w6.heap.size, 0, none⟩ 1 1 [.int .i64 0] rfl rfl (World.news_of_block (cs := #[.int .i64 0]) (t := 2) (fr := (0, 0)) (heap_alloc_new w6 _)) (by simp [Value.oneCell']) (by omega) (by unfold maxLen; omega) (by omega) (by simp; omega) (w6.heap.size + 1) (by simp) ?_; intro gg cap w7 hown1 hgrow hat hlt3)
          obtain ⟨A', c', e7, ho⟩ := row_ints (xs := ys ++ [0]) (by rw [← listI_snoc]; exact hown1) (by rw [List.length_append, HY.out]; rfl)
          injection e7 with e8 e9 e10
          subst e8; subst e10
          have HO2 := Lib.hid ho
          have O7 := Lib.hid ((O6.out.below ((Below.refl w6.heap.size w6).alloc (Nat.le_refl _) (.cells #[.int .i64 0] 2))).apart hgrow (fun q e => .inr (by have := row_base R6.out q e; omega)))
          have L7 := Lib.hid ((L6.out.alloc L6.out.size (.cells #[.int .i64 0] 2)).grown hgrow (by have := L6.out.size; simp; omega) (fun q e => by have := row_base R6.out q e; omega))
          clear hown1 hgrow hat hlt3 R6 ho
          go_wp2
          go_ret2
          exact ⟨D, m, d, ws, _, q + 1, _, ys ++ [0], rfl, O7.out.ints, HO2.out.ints, hm, by omega, L7.out⟩
  · have hn8 : m ≤ 8 := by have := (waysB_true hq).1; rw [HL.out] at this; exact this
    have HA := Lib.hid (waysB_true hq).2
    go_wp2_with fail
    refine (l06Ways_any _ _ _ ws _ ox.ints (by omega)).mono ?_
    rw [hq]
    rintro e w' ⟨rfl, rfl⟩
    go_wp2_with fail
    refine (l01Next_any B g A n c _ _ h2 (by omega)).mono ?_
    rintro e w3 ⟨x, rfl, x0, x1, h3, g3⟩
    have o3 := ox.apart g3 (fun q e => by injection e with e; subst e; exact .inl hg1)
    have B3 := Lib.hid (below_grown B2.out g3 (fun q e => by injection e with e; omega))
    have z3 := g3.size
    clear B2 g3 h2 ox x1 hq
    rcases k1 : (x == 0) with _ | _
    · have hS := h3
      have hO := o3
      have hBl := B3.out
      clear h3 o3 B3
      obtain ⟨B0, hB0⟩ : ∃ B0, w3.heap.size = B0 := ⟨_, rfl⟩
      have R0 : Hid ((w3.alloc (.cells #[] 2)).ownsRow B0 2 1 (.slice (some ⟨B0, 0, none⟩) 0 0) 0 (listI [])) := Lib.hid (by rw [← hB0]; exact row_empty (Nat.le_refl _))
      have S0 := Lib.hid (hS.alloc (.cells #[] 2))
      have O0 := Lib.hid (hO.below ((Below.refl w3.heap.size w3).alloc (Nat.le_refl _) (.cells #[] 2)))
      have L0 := Lib.hid (hBl.alloc hBl.size (.cells #[] 2))
      have Z0 : Hid (B0 + 1 ≤ (w3.alloc (.cells #[] 2)).heap.size) := Lib.hid (by rw [← hB0]; simp)
      have hgB : g < B0 := by rw [← hB0]; exact hS.lt
      clear hS hO hBl
      go_wp2
      go_loopw [6, 7] (fun v i wr => ∃ (k q : Nat) (ys : List Int), k ≤ m ∧ q ≤ k ∧ i = .int .i64 k ∧ ys.length = q ∧ Hid (wr.ownsRow B0 2 1 v q (listI ys)) ∧ Hid (Src wr B g A n c) ∧ Hid (Own wr w1.heap.size w2.heap.size D m ws) ∧ Hid (Below w.heap.size w wr) ∧ B0 + 1 ≤ wr.heap.size) (fun _ i _ => m - (intOf i).toNat)
      case atStart => exact ⟨0, 0, [], Nat.zero_le _, Nat.le_refl _, rfl, rfl, R0, S0, O0, L0, Z0.out⟩
      case round =>
        clear R0 S0 O0 L0 Z0
        obtain ⟨k, q, ys, hk, hq, rfl, hyl, HR, HS, HOW, HBL, hz⟩ := hrel
        have HY := Lib.hid hyl
        clear hyl
        have hwg : w.heap.size ≤ B0 := by have := HBL.out.size; omega
        by_cases hlt : k < m
        · go_wp2_with fail
          refine (l01Next_any B g A n c _ _ HS.out (by omega)).mono ?_
          rintro e w6 ⟨y, rfl, y0, y1, h6, g6⟩
          have R6 := Lib.hid (row_apart HR.out g6 hgB)
          have O6 := Lib.hid (HOW.out.apart g6 (fun q e => by injection e with e; subst e; exact .inl hg1))
          have L6 := Lib.hid (below_grown HBL.out g6 (fun q e => by injection e with e; omega))
          have S6 := Lib.hid h6
          have z6 := g6.size
          have hg6 := h6.lt
          clear HR HOW HBL HS g6 h6 y1
          rcases k0 : (y == 0) with _ | _
          · go_wp2
            go_roundw
            case rel => exact ⟨k + 1, q, ys, by omega, by omega, by go_num, HY.out, R6, S6, O6, L6, by omega⟩
            case measure => simp [intOf]; omega
          · go_wp2_with (at_builtin; refine wpList_append_lies _ rfl _ _ 24 rfl B0 2 i0 _ 1 8 Tryd.underlying24 HI.out.1 HI.out.2.1 HI.out.2.2.1 HI.out.2.2.2 rfl (by omega) _ q _ rfl (R6.out.alloc _) ⟨w6.heap.size, 0, none⟩ 1 1 [.int .i64 (k : Int)] rfl rfl (World.news_of_block (cs := #[.int .i64 (k : Int)]) (t := 2) (fr := (0, 0)) (heap_alloc_new w6 _)) (by simp [Value.oneCell']) (by omega) (by unfold maxLen; omega) (by omega) (by simp; omega) (w6.heap.size + 1) (by simp) ?_; intro gg cap w7 hown1 hgrow hat hlt3)
            have R7 := Lib.hid hown1
            have S7 := Lib.hid ((S6.out.alloc (.cells #[.int .i64 (k : Int)] 2)).apart hgrow (fun q e => by have := row_base R6.out q e; omega))
            have O7 := Lib.hid ((O6.out.below ((Below.refl w6.heap.size w6).alloc (Nat.le_refl _) (.cells #[.int .i64 (k : Int)] 2))).apart hgrow (fun q e => .inr (by have := row_base R6.out q e; omega)))
            have L7 := Lib.hid ((L6.out.alloc L6.out.size (.cells #[.int .i64 (k : Int)] 2)).grown hgrow (by have := L6.out.size; simp; omega) (fun q e => by have := row_base R6.out q e; omega))
            have z7 : B0 + 1 ≤ w7.heap.size := by have := hgrow.size; simp at this; omega
            clear hown1 hgrow hat hlt3 R6 S6 O6 L6
            go_wp2
            go_roundw
            case rel => exact ⟨k + 1, q + 1, ys ++ [(k : Int)], by omega, by omega, by go_num, by rw [List.length_append, HY.out]; rfl, by rw [← listI_snoc]; exact R7, S7, O7, L7, z7⟩
            case measure => simp [intOf]; omega
        · go_wp2_with fail
          refine (l01Next_any B g A n c _ _ HS.out (by omega)).mono ?_
          rintro e w6 ⟨y, rfl, y0, y1, h6, g6⟩
          have R6 := Lib.hid (row_apart HR.out g6 hgB)
          have O6 := Lib.hid (HOW.out.apart g6 (fun q e => by injection e with e; subst e; exact .inl hg1))
          have L6 := Lib.hid (below_grown HBL.out g6 (fun q e => by injection e with e; omega))
          have z6 := g6.size
          clear HR HOW HBL HS g6 h6 y1
          rcases k0 : (y == 0) with _ | _
          · obtain ⟨A', c', rfl, ho⟩ := row_ints R6.out HY.out
            have HO2 := Lib.hid ho
            clear ho
            go_wp2
            go_ret2
            exact ⟨D, m, d, ws, A', q, c', ys, rfl, O6.out.ints, HO2.out.ints, hm, by omega, L6.out⟩
          · go_wp2_with (at_builtin; refine wpList_append_lies _ rfl _ _ 24 rfl B0 2 i0 _ 1 8 Tryd.underlying24 HI.out.1 HI.out.2.1 HI.out.2.2.1 HI.out.2.2.2 rfl (by omega) _ q _ rfl (R6.out.alloc _) ⟨w6.heap.size, 0, none⟩ 1 1 [.int .i64 0] rfl rfl (World.news_of_block (cs := #[.int .i64 0]) (t := 2) (fr := (0, 0)) (heap_alloc_new w6 _)) (by simp [Value.oneCell']) (by omega) (by unfold maxLen; omega) (by omega) (by simp; omega) (w6.heap.size + 1) (by simp) ?_; intro gg cap w7 hown1 hgrow hat hlt3)
            obtain ⟨A', c', e7, ho⟩ := row_ints (xs := ys ++ [0]) (by rw [← listI_snoc]; exact hown1) (by rw [List.length_append, HY.out]; rfl)
            injection e7 with e8 e9 e10
            subst e8; subst e10
            have HO2 := Lib.hid ho
            have O7 := Lib.hid ((O6.out.below ((Below.refl w6.heap.size w6).alloc (Nat.le_refl _) (.cells #[.int .i64 0] 2))).apart hgrow (fun q e => .inr (by have := row_base R6.out q e; omega)))
            have L7 := Lib.hid ((L6.out.alloc L6.out.size (.cells #[.int .i64 0] 2)).grown hgrow (by have := L6.out.size; simp; omega) (fun q e => by have := row_base R6.out q e; omega))
            clear hown1 hgrow hat hlt3 R6 ho
            go_wp2
            go_ret2
            exact ⟨D, m, d, ws, _, q + 1, _, ys ++ [0], rfl, O7.out.ints, HO2.out.ints, hm, by omega, L7.out⟩
    · go_wp2_with fail
      refine (l01Next_any B g A n c _ _ h3 (by omega)).mono ?_
      rintro e w4 ⟨u, rfl, u0, u1, h4, g4⟩
      have o4 := o3.apart g4 (fun q e => by injection e with e; subst e; exact .inl hg1)
      have B4 := Lib.hid (below_grown B3.out g4 (fun q e => by injection e with e; omega))
      have z4 := g4.size
      have u2 : u ≤ 4095 := by omega
      clear B3 g4 h3 o3 u1
      go_wp2_with fail
      refine (l06Of_any u _ _ _ ws _ o4.ints hn8 u0 u2 HA.out).mono ?_
      rintro e w5 ⟨A5, n5, c5, rfl, o5, _, _, _, b5⟩
      have HE := Lib.hid (o4.ints.on b5)
      have H5 := Lib.hid o5.ints
      have L5 := Lib.hid (below_trans' B4.out b5)
      have hl5 : n5 ≤ 200 := by have := o5.len; have := entI_len u ws m; omega
      clear o5 b5 o4 B4
      go_wp2
      go_ret2
      exact ⟨D, m, d, ws, A5, n5, c5, _, rfl, HE.out, H5.out, hm, hl5, L5.out⟩

end Go.Proofs.YtiijkcebloefbaaDoor
