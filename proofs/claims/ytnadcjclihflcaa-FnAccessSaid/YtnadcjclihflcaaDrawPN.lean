/- The draw of rights: some nodes of a building. -/
import Derived.Test.YtnadcjclihflcaaDrawBN
namespace Go.Proofs.Ytnadcjclihflcaa
open Go Go.RowKit

theorem NdK.other {w wx wy : World} {B g : Nat} {A : Option Addr} {n c : Nat} {u v : Value} {row : Option Nat} (k : NdK w wx B g A n c u v) (hg : wx.grownBy wy row) (hs : Src wy B g A n c) (hr : ∀ q, row = some q → w.heap.size < q) : NdK w wy B g A n c u v :=
  ⟨k.bx.grown hg (fun e => by have := hr _ e.symm; omega), hs, grown_own k.gr hg (fun q e => Nat.le_of_lt (hr q e))⟩
/-- what a draw of rights answers: a list of its own -/
def DrawnNs (w : World) (B g : Nat) (A : Option Addr) (n c : Nat) (e : Ending) (w' : World) : Prop :=
  ∃ A' r c' xs, e = .returned (.slice A' r c') ∧ Own w' w.heap.size w'.heap.size A' r xs ∧ r ≤ 64 ∧ r ≤ c' ∧ c' ≤ 9223372036854775807 ∧ Src w' B g A n c ∧ w.grownBy w' (some g)

set_option maxRecDepth 100000 in
set_option maxHeartbeats 4000000 in
theorem l10DrawNodes_any (B g : Nat) (A : Option Addr) (n c : Nat) (A1 : Option Addr) (m c1 : Nat) (A2 : Option Addr) (k c2 : Nat) (w : World) (h : Src w B g A n c) (hm : m ≤ 64) :
    Calls Try.prog 106 #[.pointer (some ⟨g, 0, none⟩), .agg #[.slice A1 m c1, .slice A2 k c2]] w (DrawnNs w B g A n c) := by
  have hg1 := h.lt
  obtain ⟨ii, hi0, hz0, hz1, hz2⟩ := info_parts Try.info2'
  have HF := Lib.hid (And.intro hi0 (And.intro hz0 (And.intro hz1 hz2)))
  clear hi0 hz0 hz1 hz2
  have K00 : NdK w (w.alloc (.cells #[.slice A1 m c1, .slice A2 k c2] 27)) B g A n c (.slice A1 m c1) (.slice A2 k c2) := ⟨Cell2.new w _ _ _, h.alloc _, grown_alloc (World.grownBy.refl w (some g)) _⟩
  have K0 := Lib.hid (K00.other (grown_alloc (World.grownBy.refl _ none) (.cells #[] 2)) (K00.h.alloc _) (fun q e => by cases e))
  have R0 := row_empty (w := w.alloc (.cells #[.slice A1 m c1, .slice A2 k c2] 27)) (t := 2) (base := w.heap.size + 1) (by simp)
  rw [World.size_alloc] at R0
  have R1 := Lib.hid R0
  clear h K00 R0
  go_enter Try.func106, Try.ntmps106
  go_wp2
  go_loopw [5, 6] (fun y x wr => ∃ (j s : Nat) (xs : List Int), j ≤ m ∧ x = .int .i64 j ∧ s ≤ j ∧ xs.length = s ∧ Hid (wr.ownsRow (w.heap.size + 1) 2 1 y s (listI xs)) ∧ Hid (NdK w wr B g A n c (.slice A1 m c1) (.slice A2 k c2))) (fun _ x _ => m - (intOf x).toNat)
  case atStart => exact ⟨0, 0, [], Nat.zero_le _, rfl, Nat.le_refl _, rfl, R1, K0⟩
  case round =>
    obtain ⟨j, s, xs, hj, rfl, hs, hxl, HR, HK⟩ := hrel
    clear R1 K0
    obtain ⟨N, e0, rfl, _⟩ := row_ints HR.out hxl
    have HXL := Lib.hid hxl
    clear hxl
    obtain ⟨p0, p1⟩ := HK.out.bx.cells
    by_cases hlt : j < m
    · go_wp2_with fail
      refine (l01Next_any B g A n c _ _ HK.out.h (by omega)).mono ?_
      rintro e w4 ⟨v, rfl, v0, v1, h4, g4⟩
      have K4 := Lib.hid (HK.out.next g4 h4 hg1)
      have R4 := Lib.hid (row_apart HR.out g4 (by omega))
      have HZV := Lib.hid (row_base R4.out)
      have sz4 := K4.out.bx.lt
      clear h4 g4 HR HK p0 p1
      by_cases hv : v = 0
      · subst hv
        go_wp2_with (at_builtin; refine wpList_append_lies _ rfl _ _ 24 rfl (w.heap.size + 1) 2 ii _ 1 8 Try.underlying24 HF.out.1 HF.out.2.1 HF.out.2.2.1 HF.out.2.2.2 rfl (by omega) _ _ _ rfl (rowBelow R4.out ((Below.refl _ _).alloc (Nat.le_refl _) _)) ⟨w4.heap.size, 0, none⟩ 1 1 [.int .i64 (j : Int)] rfl rfl (World.news_of_block (cs := #[.int .i64 (j : Int)]) (t := 2) (fr := (0, 0)) (heap_alloc_new w4 _)) (by simp [Value.oneCell']) (by omega) (by unfold maxLen; omega) (by omega) (by simp; omega) (w4.heap.size + 1) (by simp) ?_; intro gg cap wn hown1 hgrow hat hlt3)
        have R5 : Hid (wn.ownsRow (w.heap.size + 1) 2 1 (.slice (some ⟨gg, 0, none⟩) (s + 1) cap) (s + 1) (listI (xs ++ [(j : Int)]))) := Lib.hid (by rw [← listI_snoc]; exact hown1)
        have S5 := (K4.out.h.alloc (.cells #[.int .i64 (j : Int)] 2)).apart hgrow (fun z e => by have := HZV.out z e; omega)
        have KA := K4.out.other (grown_alloc (World.grownBy.refl _ none) (.cells #[.int .i64 (j : Int)] 2)) (K4.out.h.alloc _) (fun z e => by cases e)
        have K5 := Lib.hid (KA.other hgrow S5 (fun z e => by have := HZV.out z e; omega))
        have L5 : Hid ((xs ++ [(j : Int)]).length = s + 1) := Lib.hid (by rw [List.length_append, HXL.out]; rfl)
        clear hown1 hgrow hat hlt3 R4 K4 KA S5
        go_wp2
        go_roundw
        case rel => exact ⟨j + 1, s + 1, _, by omega, by go_num, by omega, L5.out, R5, K5⟩
        case measure => simp [intOf]; omega
      · have hvb : (v == 0) = false := by simpa using hv
        go_wp2
        go_roundw
        case rel => exact ⟨j + 1, s, _, by omega, by go_num, by omega, HXL.out, R4, K4⟩
        case measure => simp [intOf]; omega
    · obtain rfl : j = m := by omega
      have hzw := HK.out.bx.lt
      by_cases hs0 : s = 0
      · subst hs0
        go_wp2_with fail
        refine (l01Next_any B g A n c _ _ HK.out.h (by omega)).mono ?_
        rintro e w4 ⟨v, rfl, v0, v1, h4, g4⟩
        have K4 := Lib.hid (HK.out.next g4 h4 hg1)
        have R4 := Lib.hid (row_apart HR.out g4 (by omega))
        have HZV := Lib.hid (row_base R4.out)
        have sz4 := K4.out.bx.lt
        clear h4 g4 HR HK p0 p1
        go_wp2_with (at_builtin; refine wpList_append_lies _ rfl _ _ 24 rfl (w.heap.size + 1) 2 ii _ 1 8 Try.underlying24 HF.out.1 HF.out.2.1 HF.out.2.2.1 HF.out.2.2.2 rfl (by omega) _ _ _ rfl (rowBelow R4.out ((Below.refl _ _).alloc (Nat.le_refl _) _)) ⟨w4.heap.size, 0, none⟩ 1 1 [.int .i64 v] rfl rfl (World.news_of_block (cs := #[.int .i64 v]) (t := 2) (fr := (0, 0)) (heap_alloc_new w4 _)) (by simp [Value.oneCell']) (by omega) (by unfold maxLen; omega) (by omega) (by simp; omega) (w4.heap.size + 1) (by simp) ?_; intro gg cap wn hown1 hgrow hat hlt3)
        have R5 : Hid (wn.ownsRow (w.heap.size + 1) 2 1 (.slice (some ⟨gg, 0, none⟩) (0 + 1) cap) (0 + 1) (listI (xs ++ [v]))) := Lib.hid (by rw [← listI_snoc]; exact hown1)
        have S5 := (K4.out.h.alloc (.cells #[.int .i64 v] 2)).apart hgrow (fun z e => by have := HZV.out z e; omega)
        have KA := K4.out.other (grown_alloc (World.grownBy.refl _ none) (.cells #[.int .i64 v] 2)) (K4.out.h.alloc _) (fun z e => by cases e)
        have K5 := Lib.hid (KA.other hgrow S5 (fun z e => by have := HZV.out z e; omega))
        have L5 : (xs ++ [v]).length = 0 + 1 := by rw [List.length_append, HXL.out]; rfl
        obtain ⟨_, _, e, ho, hc1, hc2⟩ := rowInts (xs := xs ++ [v]) R5.out L5
        injection e with e1 e2 e3
        subst e1; subst e3
        have HO := Lib.hid (ho.more (show w.heap.size ≤ w.heap.size + 1 by omega) (Nat.le_refl _) (Nat.le_refl _))
        clear hown1 hgrow hat hlt3 R4 K4 KA S5 ho L5
        go_wp2
        go_ret
        exact ⟨_, _, _, _, rfl, HO.out, by omega, hc1, hc2, K5.out.h, K5.out.gr⟩
      · have hsb : ((s : Int) == 0) = false := by simp; omega
        obtain ⟨_, _, e, ho, hc1, hc2⟩ := rowInts (xs := xs) HR.out HXL.out
        injection e with e1 e2 e3
        subst e1; subst e3
        have HO := Lib.hid (ho.more (show w.heap.size ≤ w.heap.size + 1 by omega) (Nat.le_refl _) (Nat.le_refl _))
        clear ho
        go_wp2
        go_ret
        exact ⟨_, _, _, _, rfl, HO.out, by omega, hc1, hc2, HK.out.h, HK.out.gr⟩

end Go.Proofs.Ytnadcjclihflcaa
