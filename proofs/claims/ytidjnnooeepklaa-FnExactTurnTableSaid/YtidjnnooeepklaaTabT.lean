/- The program's TurnTable. -/
import Derived.Test.YtidjnnooeepklaaTabR
import Derived.Test.YtidjnnooeepklaaTabZ
namespace Go.Proofs.Ytidjnnooeepklaa
open Go Go.RowKit

theorem outerV_at {gs : List (Option Addr × Nat × Nat)} {j : Nat} {a : Option Addr × Nat × Nat} (h : gs[j]? = some a) : outerV gs j = .slice a.1 a.2.1 a.2.2 := by
  unfold outerV; rw [h]
theorem Made.other {w : World} {lo g n k : Nat} {gs : List (Option Addr × Nat × Nat)} {yss : List (List Int)} (h : Made w lo g n k gs yss) (zs : List Int) : Made w lo g n k gs (yss.set k zs) :=
  ⟨h.row, h.glen, h.low, fun j a ys hj hy => by
    have hjk : j < k := by rw [← h.glen]; exact (List.getElem?_eq_some_iff.1 hj).1
    rw [List.getElem?_set_ne (by omega)] at hy
    exact h.inner j a ys hj hy, h.apart⟩
theorem Made.write {w w' : World} {lo g n K k : Nat} {gs : List (Option Addr × Nat × Nat)} {yss : List (List Int)} {a : Option Addr × Nat × Nat} {ad : Addr} {zs : List Int} (h : Made w lo g n K gs yss) (ha : gs[k]? = some a) (he : a.1 = some ad) (h0 : 0 < a.2.1) (hky : k < yss.length) (hz : zs.length = a.2.1)
    (hs : Self w' ad a.2.1 zs) (hg : w.grownBy w' (some ad.block)) : Made w' lo g n K gs (yss.set k zs) := by
  have hy : yss[k]? = some yss[k] := List.getElem?_eq_getElem hky
  obtain ⟨s1, s2, s3, s4⟩ := h.inner k a _ ha hy
  obtain ⟨ad', e', hself, hlo, hga⟩ := s4 h0
  rw [he] at e'
  injection e' with e'
  subst e'
  refine ⟨h.row.of_block (hg.block g h.row.lt (fun e => by injection e with e; exact hga e)), h.glen, h.low, fun j b ys hj hys => ?_, h.apart⟩
  by_cases hjk : j = k
  · subst hjk
    rw [ha] at hj
    injection hj with hj
    subst hj
    rw [List.getElem?_set_self hky] at hys
    injection hys with hys
    subst hys
    exact ⟨hz, s2, s3, fun _ => ⟨ad, he, hs, hlo, hga⟩⟩
  · rw [List.getElem?_set_ne (Ne.symm hjk)] at hys
    obtain ⟨t1, t2, t3, t4⟩ := h.inner j b ys hj hys
    refine ⟨t1, t2, t3, fun hp => ?_⟩
    obtain ⟨bd, e, hs', h1, h2⟩ := t4 hp
    refine ⟨bd, e, hs'.apart hg (fun er => ?_), h1, h2⟩
    injection er with er
    rcases Nat.lt_or_gt_of_ne hjk with hlt | hgt
    · exact h.apart j k b a bd ad hlt hj ha hp h0 e he er.symm
    · exact h.apart k j a b ad bd hgt ha hj h0 hp he e er

theorem below_drew_grown (w : World) (r : Option Nat) : w.grownBy w.drew r := by
  have := World.grownBy.refl w r
  exact ⟨this.os, this.tape, this.output, this.size, fun k hk hr => this.block k hk hr⟩
/-- a column of which the first t entries are written -/
def ptR (T : List (List Int)) (k n t : Nat) : List Int := (List.range n).map fun i => if i < t then (getR T i).getD k 0 else 0
theorem ptR_len (T : List (List Int)) (k n t : Nat) : (ptR T k n t).length = n := by unfold ptR; simp
theorem ptR_at (T : List (List Int)) {k n t i : Nat} (hi : i < n) : (ptR T k n t).getD i 0 = if i < t then (getR T i).getD k 0 else 0 := by
  unfold ptR; rw [List.getD_eq_getElem?_getD, List.getElem?_map, List.getElem?_range hi]; rfl
theorem ptR_all {T : List (List Int)} {k n : Nat} (hl : T.length = n) : ptR T k n n = trRow T k := by
  refine List.ext_getElem (by rw [ptR_len]; unfold trRow; rw [List.length_map, hl]) (fun i h1 h2 => ?_)
  have hi : i < n := by rw [ptR_len] at h1; exact h1
  obtain ⟨hx, e⟩ := (show ∃ h : i < T.length, T[i] = getR T i from ⟨by omega, by unfold getR; rw [List.getD_eq_getElem?_getD, List.getElem?_eq_getElem (by omega)]; rfl⟩)
  simp only [ptR, trRow, List.getElem_map, List.getElem_range, hi, if_true, e]
theorem ptR_step (T : List (List Int)) {k n t i : Nat} (hi : i < n) : (if i = t then Value.int .i64 ((getR T t).getD k 0) else Value.int .i64 ((ptR T k n t).getD i 0)) = Value.int .i64 ((ptR T k n (t + 1)).getD i 0) := by
  rw [ptR_at T hi, ptR_at T hi]
  by_cases e : i = t
  · subst e; rw [if_pos rfl, if_pos (by omega)]
  · rw [if_neg e]
    by_cases h : i < t
    · rw [if_pos h, if_pos (by omega)]
    · rw [if_neg h, if_neg (by omega)]

set_option maxRecDepth 100000 in
set_option maxHeartbeats 4000000 in
theorem turnTable_any (V : Option Addr) (n c : Nat) (T : List (List Int)) (w : World) (h : Sets w w.heap.size V n T) (hn : n + sizeL T ≤ 1048576) :
    Calls Try.prog 22 #[.slice V n c] w (GivesRagE w (tE T) (trT T)) := by
  have HL := Lib.hid h.len
  have HN := Lib.hid hn
  have H := Lib.hid h
  clear h hn
  obtain ⟨z, hz⟩ : ∃ z, tksE T [] = z := ⟨_, rfl⟩
  have HZ := Lib.hid hz
  have HE : Hid (tE T = z) := Lib.hid (by rw [← tks_none]; exact hz)
  rw [HE.out]
  by_cases hz0 : z = 0
  rotate_left
  · have HV : Hid (trT T = []) := Lib.hid (by unfold trT; rw [HE.out, if_neg hz0])
    have ht : (z != 0) = true := by simpa using hz0
    rw [HV.out]
    clear hz hz0
    go_enter Try.func22, Try.ntmps22
    go_wp2_with fail
    refine (tableOf_any V n c T none 0 0 [] _ H.out HN.out ⟨rfl, fun h => absurd h (by omega)⟩ (by omega)).mono ?_
    rw [HZ.out]
    rintro e w1 ⟨⟨a, b, F, rfl, _⟩, b1⟩
    have C1 := Lib.hid (b1.alloc b1.size (.cells (tabA a b F) 83))
    clear b1
    go_wp2
    go_ret2
    exact ⟨none, 0, 0, [], rfl, Rag.nil _ C1.out.size, by omega, by omega, C1.out⟩
  subst hz0
  have hb := tks_zero hz
  obtain ⟨⟨n1, n10⟩, ⟨m1, m12⟩, _⟩ := tabB_true hb
  rw [HL.out] at n1 n10
  have HB := Lib.hid hb
  have HV := Lib.hid (trT_is HE.out)
  rw [HV.out]
  clear hz hb
  go_enter Try.func22, Try.ntmps22
  go_wp2_with fail
  refine (tableOf_any V n c T none 0 0 [] _ H.out HN.out ⟨rfl, fun h => absurd h (by omega)⟩ (by omega)).mono ?_
  rw [HZ.out]
  rintro e w1 ⟨⟨a, m, F, rfl, hF⟩, b1⟩
  obtain ⟨rfl, hm, rfl⟩ := hF rfl
  rw [← hm]
  rw [← hm] at m1 m12
  have HM := Lib.hid hm.symm
  have bA := below_boxT w1 (.cells (tabA a m (bitsT T)) 83)
  have C1 := Lib.hid (below_trans' b1 bA)
  have G1 := Lib.hid (TBox.new w1 a m (bitsT T))
  obtain ⟨W, hW⟩ : ∃ W, W = w1.alloc (.cells (tabA a m (bitsT T)) 83) := ⟨_, rfl⟩
  have hW2 := hW
  unfold tabA at hW2
  rw [← hW] at C1 G1
  have hn0 := G1.out.nm.2
  rw [hW2] at hn0
  have hmk := run_make_row' (P := Try.prog) 24 27 (.slice none 0 0) 24 Try.underlying24 Try.info27' rfl .i64 .i64 m (by omega) (by omega)
  clear b1 bA hF hm
  go_wp2
  rw [← hW2] at *
  have HWS : Hid (W.heap.size = w1.heap.size + 1) := Lib.hid (by rw [hW]; simp)
  clear hmk hn0 hW hW2
  have M0 : Hid (Made (W.alloc (.cells (madeCells #[.slice none 0 0] m) 27)) (w1.heap.size + 1) (w1.heap.size + 1) m 0 [] ((List.range m).map (trRow T))) := Lib.hid (by
    have := Made.start (w := W) (lo := w1.heap.size + 1) (n := m) (yss := (List.range m).map (trRow T)) (by rw [HWS.out]; exact Nat.le_refl _)
    rw [HWS.out] at this
    exact this)
  have hmk := run_make_row' (P := Try.prog) 27 2 (.int .i64 0) 8 Try.underlying27 Try.info2' rfl .i64 .i64 a (by omega) (by omega)
  go_loopw [23] (fun i wr => ∃ (j : Nat) (gs : List (Option Addr × Nat × Nat)), j ≤ m ∧ i = .int .i64 j ∧ Hid (Made wr (w1.heap.size + 1) (w1.heap.size + 1) m j gs ((List.range m).map (trRow T))) ∧ Hid (Below W.heap.size W wr)) (fun i _ => m - (intOf i).toNat)
  case atStart => exact ⟨0, [], Nat.zero_le _, rfl, M0, Lib.hid (below_boxT W _)⟩
  case round =>
    obtain ⟨j, gs, hj, rfl, HMD, HBW⟩ := hrel
    clear M0
    by_cases hlt : j < m
    · have hk0 := (G1.out.on HBW.out).nm.1
      have i0 : (0 : Int) ≤ (j : Int) := by omega
      have i1 : (j : Int) < (m : Int) := by omega
      have bA := below_boxT wr (.cells (madeCells #[.int .i64 0] a) 2)
      have MA := HMD.out.on bA
      have hst := MA.row.cell hlt
      have hfz := MA.row.frozen j
      have RM := (World.rowIs_made wr (.int .i64 0) a 2).congr (g := fun i => .int .i64 ((ptR T j a 0).getD i 0)) (fun i hi => by rw [ptR_at T hi, if_neg (by omega)])
      have OR : Own (wr.alloc (.cells (madeCells #[.int .i64 0] a) 2)) wr.heap.size (wr.alloc (.cells (madeCells #[.int .i64 0] a) 2)).heap.size (some ⟨wr.heap.size, 0, none⟩) a (ptR T j a 0) := Own.of_row RM (ptR_len _ _ _ _) (Nat.le_refl _)
      have M3 := Lib.hid ((HMD.out.other (ptR T j a 0)).push (a := (some ⟨wr.heap.size, 0, none⟩, a, a)) bA (by rw [List.getElem?_set_self (by simp; omega)]) (ptR_len _ _ _ _) (Nat.le_refl _) (by simp; omega) (fun hp => ⟨⟨wr.heap.size, 0, none⟩, rfl, (OR.self hp).1, Nat.le_refl _⟩))
      have R3 := Lib.hid (RM.of_block (w' := (wr.alloc (.cells (madeCells #[.int .i64 0] a) 2)).setCell ⟨w1.heap.size + 1, j, none⟩ (.slice (some ⟨wr.heap.size, 0, none⟩) a a)) (by
        have := HMD.out.row.lt
        exact (grown_set (p := ⟨w1.heap.size + 1, j, none⟩) (World.grownBy.refl (wr.alloc (.cells (madeCells #[.int .i64 0] a) 2)) (some (w1.heap.size + 1))) rfl (.slice (some ⟨wr.heap.size, 0, none⟩) a a)).block wr.heap.size (by simp) (fun e => by injection e with e; omega)))
      have B3 := Lib.hid ((below_trans' HBW.out bA).setCell (p := ⟨w1.heap.size + 1, j, none⟩) (by show W.heap.size ≤ w1.heap.size + 1; rw [HWS.out]; exact Nat.le_refl _) (.slice (some ⟨wr.heap.size, 0, none⟩) a a))
      have GL := Lib.hid HMD.out.glen
      have hgw : w1.heap.size + 1 < wr.heap.size := HMD.out.row.lt
      clear bA MA RM OR
      rw [World.setCell_alloc_past _ (w1.heap.size + 1) j _ hgw] at M3 R3 B3
      obtain ⟨gb, hgb⟩ : ∃ gb, gb = wr.heap.size := ⟨_, rfl⟩
      go_wp2
      clear hk0 hst hfz
      rw [← hgb] at M3 R3 B3 hgw
      try rw [← hgb]
      clear hgb
      go_loopw [34] (fun i wr => ∃ t : Nat, t ≤ a ∧ i = .int .i64 t ∧ Hid (Made wr (w1.heap.size + 1) (w1.heap.size + 1) m (j + 1) (gs ++ [(some ⟨gb, 0, none⟩, a, a)]) (((List.range m).map (trRow T)).set j (ptR T j a t))) ∧ Hid (wr.rowIs gb 2 a (fun i => .int .i64 ((ptR T j a t).getD i 0))) ∧ Hid (Below W.heap.size W wr)) (fun i _ => a - (intOf i).toNat)
      case atStart => exact ⟨0, Nat.zero_le _, rfl, M3, R3, B3⟩
      case round =>
        obtain ⟨t, ht, rfl, HM4, HR4, HB4⟩ := hrel
        clear M3 R3 B3 HMD HBW
        by_cases hta : t < a
        · have HG5 := Lib.hid (G1.out.on HB4.out)
          obtain ⟨ad, A2, c2, rfl, hab, _, hc, hi, _, _⟩ := tab_at ((H.out.on C1.out).on HB4.out) HB.out HM.out hta
          obtain ⟨bd, rfl, hdb, _, hdc⟩ := ints_at hi hlt
          have hga : (gs ++ [((some ⟨gb, 0, none⟩ : Option Addr), a, a)])[j]? = some (some ⟨gb, 0, none⟩, a, a) := by rw [List.getElem?_append_right (by rw [GL.out]; exact Nat.le_refl _), GL.out, Nat.sub_self]; rfl
          have hoc := HM4.out.row.cell hlt
          rw [outerV_at hga] at hoc
          have hst := HR4.out.cell hta
          have hfz := HR4.out.frozen t
          have hglt := HR4.out.lt
          have HGA := Lib.hid hga
          have i2 : (0 : Int) ≤ (t : Int) := by omega
          have i3 : (t : Int) < (a : Int) := by omega
          have HPS := Lib.hid (fun i (hi : i < a) => ptR_step T (k := j) (n := a) (t := t) hi)
          clear hab hi hdb hga
          generalize (getR T t).getD j 0 = v at *
          have R5 := Lib.hid ((HR4.out.set t (.int .i64 v)).congr (fun i hi => HPS.out i hi))
          have R6 : Hid (((wr.setCell ⟨gb, t, none⟩ (.int .i64 v)).drew).rowIs gb 2 a (fun i => .int .i64 ((ptR T j a (t + 1)).getD i 0))) := Lib.hid (R5.out.of_block rfl)
          have O6 : Own ((wr.setCell ⟨gb, t, none⟩ (.int .i64 v)).drew) gb ((wr.setCell ⟨gb, t, none⟩ (.int .i64 v)).drew).heap.size (some ⟨gb, 0, none⟩) a (ptR T j a (t + 1)) := Own.of_row R6.out (ptR_len _ _ _ _) (Nat.le_refl _)
          have M6 : Hid (Made ((wr.setCell ⟨gb, t, none⟩ (.int .i64 v)).drew) (w1.heap.size + 1) (w1.heap.size + 1) m (j + 1) (gs ++ [(some ⟨gb, 0, none⟩, a, a)]) (((List.range m).map (trRow T)).set j (ptR T j a (t + 1)))) := Lib.hid (by
            have := HM4.out.write (w' := (wr.setCell ⟨gb, t, none⟩ (.int .i64 v)).drew) (k := j) (zs := ptR T j a (t + 1)) HGA.out rfl (by show 0 < a; omega) (by rw [List.length_set]; simp; omega) (ptR_len _ _ _ _) (O6.self (by omega)).1 ((grown_set (p := ⟨gb, t, none⟩) (World.grownBy.refl wr (some gb)) rfl _).trans (below_drew_grown _ _))
            rw [List.set_set] at this
            exact this)
          have B6 := Lib.hid ((HB4.out.setCell (p := ⟨gb, t, none⟩) (by show W.heap.size ≤ gb; rw [HWS.out]; omega) (.int .i64 v)).drew)
          clear O6 R5
          go_wp2
          go_region
          go_wp2
          go_roundw
          case rel => exact ⟨t + 1, by omega, by go_num, M6, R6, B6⟩
          case measure => simp [intOf]; omega
        · obtain rfl : t = a := by omega
          have HMF : Hid (Made wr (w1.heap.size + 1) (w1.heap.size + 1) m (j + 1) (gs ++ [(some ⟨gb, 0, none⟩, t, t)]) ((List.range m).map (trRow T))) := Lib.hid (by
            have := HM4.out
            rw [ptR_all HL.out] at this
            have e : ((List.range m).map (trRow T)).set j (trRow T j) = (List.range m).map (trRow T) := by
              refine List.ext_getElem? (fun i => ?_)
              rw [List.getElem?_set]
              by_cases ei : j = i
              · subst ei; rw [if_pos rfl, if_pos (by simp; omega), List.getElem?_map, List.getElem?_range hlt]; rfl
              · rw [if_neg ei]
            rw [e] at this
            exact this)
          go_wp2
          go_roundw
          case rel => exact ⟨j + 1, _, by omega, by go_num, HMF, HB4⟩
          case measure => simp [intOf]; omega
    · obtain rfl : j = m := by omega
      have C2 := Lib.hid (below_trans' C1.out HBW.out)
      have RG := Lib.hid ((HMD.out.rag (by simp)).more (show w.heap.size ≤ w1.heap.size + 1 by rw [← HWS.out]; exact C1.out.size))
      clear hmk
      go_wp2
      go_ret2
      exact ⟨_, _, _, _, rfl, by rw [HM.out]; exact RG.out, Nat.le_refl _, by omega, C2.out⟩

end Go.Proofs.Ytidjnnooeepklaa
