/- A lock of bits as lists. -/
import Derived.Test.YtbfnffecmglgfaaBuilt
import Derived.Test.YtbfnffecmglgfaaLock
import Derived.Deep.RegionHeld3
import Derived.Deep.RegionLaw
namespace Go.Proofs.Ytbfnffecmglgfaa
open Go Go.RowKit

/-- the lists, where the first i sets have come, and the depths below d of the next one -/
def lisAt (D : Nat) (p : Nat → Nat → Bool) (i d j : Nat) : List Int := if j < i then setOf D (p j) else if j = i then setOf d (p i) else []
theorem lisAt_row (D : Nat) (p : Nat → Nat → Bool) (i j : Nat) : lisAt D p i D j = lisAt D p (i + 1) 0 j := by
  unfold lisAt
  by_cases h : j < i
  · rw [if_pos h, if_pos (by omega)]
  · by_cases h2 : j = i
    · subst h2; rw [if_neg h, if_pos rfl, if_pos (by omega)]
    · rw [if_neg h, if_neg h2, if_neg (by omega)]
      split <;> rfl
theorem lisAt_add {D : Nat} {p : Nat → Nat → Bool} {i d : Nat} (h : p i d = true) (j : Nat) : (if j = i then lisAt D p i d i ++ [(d : Int)] else lisAt D p i d j) = lisAt D p i (d + 1) j := by
  by_cases h2 : j = i
  · subst h2
    rw [if_pos rfl]
    unfold lisAt
    rw [if_neg (by omega), if_pos rfl, if_neg (by omega), if_pos rfl, setOf_snoc, if_pos h]
  · rw [if_neg h2]
    unfold lisAt
    rw [if_neg h2, if_neg h2]
theorem lisAt_skip {D : Nat} {p : Nat → Nat → Bool} {i d : Nat} (h : p i d = false) (j : Nat) : lisAt D p i d j = lisAt D p i (d + 1) j := by
  unfold lisAt
  by_cases h2 : j = i
  · subst h2
    rw [if_neg (by omega), if_pos rfl, if_neg (by omega), if_pos rfl, setOf_snoc, h]; rfl
  · rw [if_neg h2, if_neg h2]
theorem lisAt_here (D : Nat) (p : Nat → Nat → Bool) (i d : Nat) : (lisAt D p i d i).length ≤ d := by
  unfold lisAt
  rw [if_neg (by omega), if_pos rfl]
  unfold setOf
  rw [List.length_map]
  have := List.length_filter_le (p i) (List.range d)
  rw [List.length_range] at this
  exact this
theorem lisAt_end (D n : Nat) (p : Nat → Nat → Bool) : (List.range n).map (lisAt D p n 0) = lockOf n D p := by
  unfold lockOf
  refine List.map_congr_left (fun j hj => ?_)
  unfold lisAt
  rw [if_pos (List.mem_range.1 hj)]

set_option maxRecDepth 100000 in
set_option maxHeartbeats 8000000 in
theorem inLists_any (m : Mk) (hm : m.ok = true) (vs : Nat → Nat) (hv : ∀ i, vs i < 256) (w : World) :
    Calls Try.prog 96 #[.agg #[.int .i64 m.C, .int .i64 m.D, .int .i64 m.S, .int .i64 m.M, .int .i64 m.L, .int .u8 (vs 0 : Nat), .int .u8 (vs 1 : Nat), .int .u8 (vs 2 : Nat), .int .u8 (vs 3 : Nat), .int .u8 (vs 4 : Nat), .int .u8 (vs 5 : Nat)]] w (GivesLock w (lockOf m.C.toNat m.D.toNat (bitP vs))) := by
  obtain ⟨m1, m2, m3, m4, m5, m6, m7, m8, m9, m10, m11⟩ := Mk.ok_true hm
  obtain ⟨n, hn⟩ : ∃ n : Nat, m.C.toNat = n := ⟨_, rfl⟩
  obtain ⟨D, hD⟩ : ∃ D : Nat, m.D.toNat = D := ⟨_, rfl⟩
  have hnC : (n : Int) = m.C := by omega
  have hDD : (D : Int) = m.D := by omega
  rw [hn, hD]
  have HV := Lib.hid hv
  obtain ⟨ii, hi0, hz0, hz1, hz2⟩ := info_parts Try.info2'
  have HF := Lib.hid (And.intro hi0 (And.intro hz0 (And.intro hz1 hz2)))
  have hmk := run_make_row' (P := Try.prog) 26 39 (.slice none 0 0) 24 Try.underlying26 Try.info39' rfl .i64 .i64 n (by omega) (by omega)
  rw [hnC] at hmk
  have x0 := BitBox.new w 106 m vs
  obtain ⟨q0, q1, q2, q3, q4, q5, q6, q7, q8, q9, q10⟩ := x0.cells
  clear hm hn hD hv hi0 hz0 hz1 hz2
  go_enter Try.func96, Try.ntmps96
  have x1 := ((x0.alloc (.cells #[.slice none 0 0] 30)).alloc (.cells (madeCells #[.slice none 0 0] n) 39)).alloc (.cells #[.slice (some ⟨w.heap.size + 1 + 1, 0, none⟩) n n] 30)
  have k1 := ((Cell1.new (w.alloc (.cells #[.int .i64 m.C, .int .i64 m.D, .int .i64 m.S, .int .i64 m.M, .int .i64 m.L, .int .u8 (vs 0 : Nat), .int .u8 (vs 1 : Nat), .int .u8 (vs 2 : Nat), .int .u8 (vs 3 : Nat), .int .u8 (vs 4 : Nat), .int .u8 (vs 5 : Nat)] 106)) 30 (.slice none 0 0)).alloc (.cells (madeCells #[.slice none 0 0] n) 39)).alloc (.cells #[.slice (some ⟨w.heap.size + 1 + 1, 0, none⟩) n n] 30)
  have k3 := Cell1.new (((w.alloc (.cells #[.int .i64 m.C, .int .i64 m.D, .int .i64 m.S, .int .i64 m.M, .int .i64 m.L, .int .u8 (vs 0 : Nat), .int .u8 (vs 1 : Nat), .int .u8 (vs 2 : Nat), .int .u8 (vs 3 : Nat), .int .u8 (vs 4 : Nat), .int .u8 (vs 5 : Nat)] 106)).alloc (.cells #[.slice none 0 0] 30)).alloc (.cells (madeCells #[.slice none 0 0] n) 39)) 30 (.slice (some ⟨w.heap.size + 1 + 1, 0, none⟩) n n)
  have b1 := (Built.start (w := (w.alloc (.cells #[.int .i64 m.C, .int .i64 m.D, .int .i64 m.S, .int .i64 m.M, .int .i64 m.L, .int .u8 (vs 0 : Nat), .int .u8 (vs 1 : Nat), .int .u8 (vs 2 : Nat), .int .u8 (vs 3 : Nat), .int .u8 (vs 4 : Nat), .int .u8 (vs 5 : Nat)] 106)).alloc (.cells #[.slice none 0 0] 30)) (lo := w.heap.size + 1 + 1 + 1 + 1) (n := n)).on ((Below.refl _ _).alloc (Nat.le_refl _) (.cells #[.slice (some ⟨w.heap.size + 1 + 1, 0, none⟩) n n] 30))
  have c1 := ((((Below.refl w.heap.size w).alloc (Nat.le_refl _) (.cells #[.int .i64 m.C, .int .i64 m.D, .int .i64 m.S, .int .i64 m.M, .int .i64 m.L, .int .u8 (vs 0 : Nat), .int .u8 (vs 1 : Nat), .int .u8 (vs 2 : Nat), .int .u8 (vs 3 : Nat), .int .u8 (vs 4 : Nat), .int .u8 (vs 5 : Nat)] 106)).alloc (by simp) (.cells #[.slice none 0 0] 30)).alloc (by simp; omega) (.cells (madeCells #[.slice none 0 0] n) 39)).alloc (by simp; omega) (.cells #[.slice (some ⟨w.heap.size + 1 + 1, 0, none⟩) n n] 30)
  simp only [World.size_alloc] at k1 k3 b1
  have X1 := Lib.hid x1
  have K1 := Lib.hid k1
  have K3 := Lib.hid k3
  have B1 := Lib.hid b1
  have C1 := Lib.hid c1
  have cc := k3.cell
  clear x1 k1 k3 b1 c1
  go_wp2
  clear q0 q1 q2 q3 q4 q5 q6 q7 q8 q9 q10 hmk cc x0
  go_loopw [14] (fun x wr => ∃ (i : Nat) (vals : Nat → Value), x = .int .i64 i ∧ i ≤ n ∧ Hid (Built wr (w.heap.size + 1 + 1 + 1 + 1) (w.heap.size + 1 + 1) n vals (lisAt D (bitP vs) i 0)) ∧ Hid (BitBox wr w.heap.size 106 m vs) ∧ Hid (Cell1 wr (w.heap.size + 1) 30 (.slice none 0 0)) ∧ Hid (Cell1 wr (w.heap.size + 1 + 1 + 1) 30 (.slice (some ⟨w.heap.size + 1 + 1, 0, none⟩) n n)) ∧ Hid (Below w.heap.size w wr)) (fun x _ => n - (intOf x).toNat)
  case atStart => exact ⟨0, _, rfl, Nat.zero_le _, Lib.hid (B1.out.congr (fun j => by unfold lisAt; split <;> (try split) <;> first | rfl | omega)), X1, K1, K3, C1⟩
  case round =>
    obtain ⟨i, vals, rfl, hi, hbt, hbox, hres, hcell, hb⟩ := hrel
    clear X1 K1 K3 B1 C1
    by_cases hlt' : (i : Int) < m.C
    · have hlt : i < n := by omega
      obtain ⟨q0, q1, q2, q3, q4, _⟩ := hbox.out.cells
      go_wp2
      clear q0 q1 q2 q3 q4
      go_loopw [20] (fun x wr => ∃ (d : Nat) (vals : Nat → Value), x = .int .i64 d ∧ d ≤ D ∧ Hid (Built wr (w.heap.size + 1 + 1 + 1 + 1) (w.heap.size + 1 + 1) n vals (lisAt D (bitP vs) i d)) ∧ Hid (BitBox wr w.heap.size 106 m vs) ∧ Hid (Cell1 wr (w.heap.size + 1) 30 (.slice none 0 0)) ∧ Hid (Cell1 wr (w.heap.size + 1 + 1 + 1) 30 (.slice (some ⟨w.heap.size + 1 + 1, 0, none⟩) n n)) ∧ Hid (Below w.heap.size w wr)) (fun x _ => D - (intOf x).toNat)
      case atStart => exact ⟨0, vals, rfl, Nat.zero_le _, hbt, hbox, hres, hcell, hb⟩
      case round =>
        clear hbt hbox hres hcell hb
        obtain ⟨d, vals, rfl, hd, hbt, hbox, hres, hcell, hb⟩ := hrel
        by_cases hltd' : (d : Int) < m.D
        · have hltd : d < D := by omega
          have i0 : (0 : Int) ≤ (i : Int) := by omega
          have i1 : (i : Int) < (n : Int) := by omega
          have i6 : (i : Int) < 6 := by omega
          have qb := hbox.out.bit (show i < 6 by omega)
          go_wp2_with fail
          refine (has_any (vs i) d _ (HV.out i) (by omega)).mono ?_
          rcases hh : (vs i).testBit d with _ | _
          · rintro e w' ⟨rfl, rfl⟩
            have HB := Lib.hid (hbt.out.congr (fun j => lisAt_skip (p := bitP vs) hh j))
            clear hh hbt qb
            go_wp2
            go_roundw
            case rel => exact ⟨d + 1, vals, by go_num, by omega, HB, hbox, hres, hcell, hb⟩
            case measure => simp [intOf]; omega
          · rintro e w' ⟨rfl, rfl⟩
            have hfz := hbt.out.row.frozen i
            have hst := hbt.out.row.cell hlt
            have hc3 := hcell.out.cell
            have hld := lisAt_here D (bitP vs) i d
            obtain ⟨k, hkl⟩ : ∃ k, (lisAt D (bitP vs) i d i).length = k := ⟨_, rfl⟩
            rw [hkl] at hld
            have hin := hbt.out.inner i hlt
            rw [hkl] at hin
            have HIN := Lib.hid hin
            have hszw := hcell.out.lt
            have hrl := hbt.out.row.lt
            clear hin qb
            have hbase : ∀ q, (vals i).ownBlock = some q → w.heap.size + 1 + 1 + 1 + 1 ≤ q := fun q e => rowBase HIN.out q e
            have hn3 : some (w.heap.size + 1 + 1 + 1) ≠ (vals i).ownBlock := fun e => by have := hbase _ e.symm; omega
            have hn2 : some (w.heap.size + 1 + 1) ≠ (vals i).ownBlock := fun e => by have := hbase _ e.symm; omega
            have hn1 : some (w.heap.size + 1) ≠ (vals i).ownBlock := fun e => by have := hbase _ e.symm; omega
            have hn0 : some w.heap.size ≠ (vals i).ownBlock := fun e => by have := hbase _ e.symm; omega
            have ha1 := (Below.refl (wr.drewN 1).heap.size (wr.drewN 1)).alloc (Nat.le_refl _) (.cells #[.int .i64 (d : Int)] 2)
            have hd1 := below_drewN (Below.refl wr.heap.size wr) 1
            have K4 := Lib.hid ((Cell1.on hcell.out hd1).alloc (.cells #[.int .i64 (d : Int)] 2))
            have E4 := Lib.hid ((Cell1.on hres.out hd1).alloc (.cells #[.int .i64 (d : Int)] 2))
            have X4 := Lib.hid ((BitBox.on hbox.out hd1).alloc (.cells #[.int .i64 (d : Int)] 2))
            have Q4 := Lib.hid ((hbt.out.drewN 1).on ha1).row
            have B4 := Lib.hid ((below_drewN hb.out 1).alloc hb.out.size (.cells #[.int .i64 (d : Int)] 2))
            clear ha1 hd1
            go_wp2
            go_region_law (first
                | (refine step_append_lies _ (by rfl) _ _ _ (by rfl) (w.heap.size + 1 + 1 + 1 + 1) 2 ii _ 1 8 Try.underlying39 HF.out.1 HF.out.2.1 HF.out.2.2.1 HF.out.2.2.2 rfl (by omega) _ k (intsV (lisAt D (bitP vs) i d i)) (by rfl) ((rowDrewN HIN.out 1).alloc _) ⟨wr.heap.size, 0, none⟩ 1 1 [.int .i64 (d : Int)] (by rfl) (by rfl) (World.news_of_block (cs := #[.int .i64 (d : Int)]) (t := 2) (fr := (0, 0)) (heap_alloc_new (wr.drewN 1) _)) (by simp [Value.oneCell']) (by omega) (by unfold maxLen; omega) (by omega) (by simp; omega) (wr.heap.size + 1) (by simp) ?_; intro gg cap w5 hown1 hgrow hat hlt3; have K5 := Lib.hid (Cell1.grown K4.out hgrow hn3); have G5 := Lib.hid (And.intro hgrow (And.intro hown1 hat)); have hz5 := (Q4.out.of_block (hgrow.block _ Q4.out.lt hn2)).frozen i; have hr5 := (Q4.out.of_block (hgrow.block _ Q4.out.lt hn2)).cell hlt; have hk5 := K5.out.cell; clear hown1 hgrow hat))
            all_goals
              have P5 := Built.push (hbt.out.drewN 1) hlt (by rw [hkl]; exact G5.out.2.1) G5.out.1 (G5.out.2.2.imp id (fun e => by rw [e]; simp))
              rw [hkl] at P5
              have HB := Lib.hid (P5.congr (yss := lisAt D (bitP vs) i (d + 1)) (fun j => lisAt_add (p := bitP vs) hh j))
              have hs5 := grown_set (p := ⟨w.heap.size + 1 + 1, i, none⟩) (World.grownBy.refl w5 (some (w.heap.size + 1 + 1))) rfl (.slice (some ⟨gg, 0, none⟩) (k + 1) cap)
              have HX := Lib.hid (BitBox.grown (BitBox.grown X4.out G5.out.1 hn0) hs5 (by intro e; injection e with e; omega))
              have HE := Lib.hid (Cell1.grown (Cell1.grown E4.out G5.out.1 hn1) hs5 (by intro e; injection e with e; omega))
              have HK := Lib.hid (Cell1.grown K5.out hs5 (by intro e; injection e with e; omega))
              have HC := Lib.hid ((B4.out.grown G5.out.1 (by simp; omega) (fun q e => by have := hbase q e; omega)).setCell (p := ⟨w.heap.size + 1 + 1, i, none⟩) (by show w.heap.size ≤ w.heap.size + 1 + 1; omega) (.slice (some ⟨gg, 0, none⟩) (k + 1) cap))
              clear P5 hs5 hz5 hr5 hk5 hc3 hst hfz hn0 hn1 hn2 hn3 hbase hh hkl
              go_wp2
              go_roundw
              case rel => exact ⟨d + 1, _, by go_num, by omega, HB, HX, HE, HK, HC⟩
              case measure => simp [intOf]; omega
        · have e1 : ∀ j, lisAt D (bitP vs) i d j = lisAt D (bitP vs) (i + 1) 0 j := fun j => by
            have : d = D := by omega
            rw [this]
            exact lisAt_row D (bitP vs) i j
          have HB := Lib.hid (hbt.out.congr e1)
          go_wp2
          go_roundw
          case rel => exact ⟨i + 1, vals, by go_num, by omega, HB, hbox, hres, hcell, hb⟩
          case measure => simp [intOf]; omega
    · obtain rfl : i = n := by omega
      have hc3 := hcell.out.cell
      have hf1 := Cell1.thawed hres.out
      have hc1 := hres.out.cell
      have R := hbt.out.rag (lo' := w.heap.size + 1 + 1) (by omega) (Nat.le_refl _)
      rw [lisAt_end] at R
      have HR := Lib.hid R
      clear R hbt hbox hcell
      go_wp2
      have L1 := Cell1.put hres.out (.slice (some ⟨w.heap.size + 1 + 1, 0, none⟩) i i)
      have r0 := L1.cell
      have R2 := HR.out.asetCell (p := ⟨w.heap.size + 1, 0, none⟩) (by show w.heap.size + 1 < w.heap.size + 1 + 1; omega) (.slice (some ⟨w.heap.size + 1 + 1, 0, none⟩) i i)
      refine bodyPost_ret (v := .agg #[.slice (some ⟨w.heap.size + 1 + 1, 0, none⟩) i i]) (by simp [results, Try.results96, go_sem, r0]) rfl ⟨_, i, i, _, rfl, R2.more (by omega), Nat.le_refl _, by omega, hb.out.setCell (by show w.heap.size ≤ w.heap.size + 1; omega) _⟩

end Go.Proofs.Ytbfnffecmglgfaa
