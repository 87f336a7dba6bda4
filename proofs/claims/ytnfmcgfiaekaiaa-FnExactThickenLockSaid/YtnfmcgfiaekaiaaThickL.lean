/- ThickenLock of the program. -/
import Derived.Test.YtnfmcgfiaekaiaaThick
import Derived.Deep.RegionHeld3
namespace Go.Proofs.Ytnfmcgfiaekaiaa
open Go Go.RowKit

set_option maxRecDepth 100000 in
set_option maxHeartbeats 8000000 in
theorem thickenLock_any (m : Mk) (V : Option Addr) (n c : Nat) (yss : List (List Int)) (least : Int) (w : World) (h : Sets w w.heap.size V n yss) (hn : n + sizeL yss ≤ 1048576) :
    Calls Try.prog 40 #[.agg #[.int .i64 m.C, .int .i64 m.D, .int .i64 m.S, .int .i64 m.M, .int .i64 m.L], .agg #[.slice V n c], .int .i64 least] w (GivesLockE w (cfE m yss least) (tkL m yss least)) := by
  have c0 := (((Below.refl w.heap.size w).alloc (Nat.le_refl _) (.cells #[.int .i64 m.C, .int .i64 m.D, .int .i64 m.S, .int .i64 m.M, .int .i64 m.L] 25)).alloc (by simp) (.cells #[.slice V n c] 30)).alloc (by simp; omega) (.cells #[.slice none 0 0] 30)
  have hx := ((Boxed.new w 25 m).alloc (.cells #[.slice V n c] 30)).alloc (.cells #[.slice none 0 0] 30)
  have k0 := (Cell1.new (w.alloc (.cells #[.int .i64 m.C, .int .i64 m.D, .int .i64 m.S, .int .i64 m.M, .int .i64 m.L] 25)) 30 (.slice V n c)).alloc (.cells #[.slice none 0 0] 30)
  have o0 := Cell1.new ((w.alloc (.cells #[.int .i64 m.C, .int .i64 m.D, .int .i64 m.S, .int .i64 m.M, .int .i64 m.L] 25)).alloc (.cells #[.slice V n c] 30)) 30 (.slice none 0 0)
  simp only [World.size_alloc] at k0 o0
  have hs := h.on c0
  have HN := Lib.hid hn
  have HLN := Lib.hid h.len
  have hn1 : n ≤ 1048576 := by omega
  have HS := Lib.hid h
  clear h hn
  obtain ⟨q0, q1, q2, q3, q4⟩ := hx.cells
  have ck := k0.cell
  obtain ⟨z, hz⟩ : ∃ z, cfE m yss least = z := ⟨_, rfl⟩
  by_cases hz0 : z = 0
  rotate_left
  · have HE : Hid (tkL m yss least = []) := Lib.hid (by unfold tkL; rw [hz, if_neg hz0])
    rw [hz, HE.out]
    have HZ := Lib.hid hz
    have htest : (z != 0) = true := by simpa using hz0
    clear hz hz0
    go_enter Try.func40, Try.ntmps40
    go_wp2_with fail
    refine (codeForLeast_any m _ _ _ yss least _ hs HN.out).mono ?_
    rw [HZ.out]
    rintro e w1 ⟨rfl, b1⟩
    have c1 := below_trans' c0 b1
    have o1 := o0.on b1
    have f1 := o1.thawed
    have k1 := o1.cell
    clear q0 q1 q2 q3 q4 ck
    go_wp2
    have r0 := (o1.put (.slice none 0 0)).cell
    refine bodyPost_ret (v := .tuple #[.agg #[.slice none 0 0], .int .i64 z]) (by simp [results, Try.results40, go_sem, r0]) rfl ⟨none, 0, 0, [], rfl, Rag.nil none ?_, Nat.le_refl _, by omega, c1.setCell (by simp; omega) _⟩
    have := c1.size
    simpa [World.setCell] using this
  subst hz0
  have HZ := Lib.hid hz
  obtain ⟨hL, _⟩ := cf_zero hz
  have HE : Hid (tkL m yss least = yss.map (thk least)) := Lib.hid (by unfold tkL; rw [hz, if_pos rfl])
  rw [hz, HE.out]
  obtain ⟨hm, hCn, hfs⟩ := lockB_facts hL
  obtain ⟨m1, m2, m3, m4, m5, m6, m7, m8, m9, m10, m11⟩ := Mk.ok_true hm
  have hnC : (n : Int) = m.C := by have := HLN.out; omega
  have H7 : Hid (∀ (k : Nat) (ys : List Int), yss[k]? = some ys → ys.length ≠ 0 ∧ allIn 0 7 ys = true) := Lib.hid (fun k ys hy => ⟨(hfs k ys hy).1, rise_seven (hfs k ys hy).2 m4⟩)
  have hmk := run_make_row' (P := Try.prog) 26 39 (.slice none 0 0) 24 Try.underlying26 Try.info39' rfl .i64 .i64 n (by omega) (by omega)
  rw [hnC] at hmk
  have HNC := Lib.hid hnC
  clear hz hL hm hCn hfs
  go_enter Try.func40, Try.ntmps40
  go_wp2_with fail
  refine (codeForLeast_any m _ _ _ yss least _ hs HN.out).mono ?_
  rw [HZ.out]
  rintro e w1 ⟨rfl, b1⟩
  have c1 := below_trans' c0 b1
  have x1 := hx.on b1
  have K1 := k0.on b1
  have ck1 := K1.cell
  have o1 := o0.on b1
  have ho1 := o1.lt
  have hz1 := c1.size
  clear q0 q1 q2 q3 q4 ck
  obtain ⟨q0, q1, q2, q3, q4⟩ := x1.cells
  have M0 := Lib.hid ((Made.start (w := w1) (lo := w1.heap.size) (n := n) (yss := yss.map (thk least)) (Nat.le_refl _)).on (below_alloc2 _ (.cells #[.slice (some ⟨w1.heap.size, 0, none⟩) n n] 30)))
  have Y0 := Cell1.new (w1.alloc (.cells (madeCells #[.slice none 0 0] n) 39)) 30 (.slice (some ⟨w1.heap.size, 0, none⟩) n n)
  rw [World.size_alloc] at Y0
  have D0 := Lib.hid ((below_alloc2 w1 (.cells (madeCells #[.slice none 0 0] n) 39)).trans ((below_alloc2 _ (.cells #[.slice (some ⟨w1.heap.size, 0, none⟩) n n] 30)).mono (by simp)))
  have HY0 := Lib.hid Y0
  clear Y0
  have ck2 := ((K1.alloc (.cells (madeCells #[.slice none 0 0] n) 39)).alloc (.cells #[.slice (some ⟨w1.heap.size, 0, none⟩) n n] 30)).cell
  have HO1 := Lib.hid o1
  have HC1 := Lib.hid c1
  clear K1 ck1 x1 k0 o0 hx hs c0 b1 o1 c1
  go_wp2
  clear q0 q1 q2 q3 q4 ck2 hmk
  go_loopw [27] (fun x wr => ∃ (k : Nat) (gs : List (Option Addr × Nat × Nat)), k ≤ n ∧ x = .int .i64 k ∧ Hid (Made wr w1.heap.size w1.heap.size n k gs (yss.map (thk least))) ∧ Hid (Cell1 wr (w1.heap.size + 1) 30 (.slice (some ⟨w1.heap.size, 0, none⟩) n n)) ∧ Hid (Below w1.heap.size w1 wr)) (fun x _ => n - (intOf x).toNat)
  case atStart => exact ⟨0, [], Nat.zero_le _, rfl, M0, HY0, D0⟩
  case round =>
    obtain ⟨k, gs, hk, rfl, hmade, hbox, hb⟩ := hrel
    clear M0 HY0 D0
    have hbx := hbox.out.lt
    by_cases hlt : k < n
    · have hwr := below_trans' HC1.out hb.out
      obtain ⟨ad, ys, A, q, cc, rfl, hab, hy, hc, hi, hq, hqm⟩ := (HS.out.on hwr).at_ hlt
      have hq1 : q ≤ 1048576 := by have := fits_at HN.out hy; have := hi.len; omega
      obtain ⟨hne, h7⟩ := H7.out k ys hy
      have hq0 : 0 < q := by have := hi.len; omega
      have HY : Hid ((yss.map (thk least))[k]? = some (thk least ys)) := Lib.hid (by rw [List.getElem?_map, hy]; rfl)
      have HI := Lib.hid hi
      have H8 := Lib.hid h7
      have i0 : (0 : Int) ≤ (k : Int) := by omega
      have i1 : (k : Int) < (n : Int) := by omega
      have cb := hbox.out.cell
      clear hy hi h7 hne hwr
      go_wp2
      go_region_held3 (fun w' => w'.cell? ⟨w1.heap.size + 1, 0, none⟩ = some (.slice (some ⟨w1.heap.size, 0, none⟩) n n))
        (first
          | go_keep
          | with_reducible exact K2.out.cell
          | exact (World.cell?_setCell_other _ _ _ _ (by intro e; have := congrArg Addr.block e; simp at this)).trans K2.out.cell)
        (first
          | (go_at_call 101; refine (thickSet_any _ _ _ ys least _ (ints_drewN HI.out 1) hq hq1 hq0 H8.out).mono ?_; rintro e w2 ⟨A2, n2, c2, rfl, o2, hc2, hcm2, b2⟩; have b3 := below_trans' (below_drewN (Below.refl wr.heap.size wr) 1) b2; have K2 := Lib.hid (hbox.out.on b3); have hfz := (hmade.out.on b3).row.frozen k; have hst := (hmade.out.on b3).row.cell hlt))
      all_goals
        have M2 := Lib.hid (hmade.out.push (a := (A2, n2, c2)) b3 HY.out o2.len hc2 hcm2 (fun hp => by
          obtain ⟨a2, _, rfl, _⟩ := o2.at_ hp
          obtain ⟨s1, s2, _⟩ := o2.self hp
          exact ⟨a2, rfl, s1, s2⟩))
        have K3 := Lib.hid (K2.out.other (p := ⟨w1.heap.size, k, none⟩) (by show w1.heap.size + 1 ≠ w1.heap.size; omega) (.slice A2 n2 c2))
        have B2 := Lib.hid ((hb.out.trans (b3.mono hb.out.size)).setCell (p := ⟨w1.heap.size, k, none⟩) (Nat.le_refl _) (.slice A2 n2 c2))
        clear o2 hfz hst K2 b2 b3 hc cb
        go_wp2
        go_roundw
        case rel => exact ⟨k + 1, _, by omega, by go_num, M2, K3, B2⟩
        case measure => simp [intOf]; omega
    · obtain rfl : k = n := by omega
      have HR := Lib.hid (hmade.out.rag (by rw [List.length_map, HLN.out]))
      have o2 := HO1.out.on hb.out
      have f2 := o2.thawed
      have g2 := o2.cell
      have cb := hbox.out.cell
      have C2 := Lib.hid (below_trans' HC1.out hb.out)
      go_wp2
      have r0 := (o2.put (.slice (some ⟨w1.heap.size, 0, none⟩) k k)).cell
      have R2 := HR.out.asetCell (p := ⟨w.heap.size + 1 + 1, 0, none⟩) (by show w.heap.size + 1 + 1 < w1.heap.size; omega) (.slice (some ⟨w1.heap.size, 0, none⟩) k k)
      refine bodyPost_ret (v := .tuple #[.agg #[.slice (some ⟨w1.heap.size, 0, none⟩) k k], .int .i64 0]) (by simp [results, Try.results40, go_sem, r0]) rfl ⟨_, k, k, gs, rfl, R2.more (by omega), Nat.le_refl _, by omega, C2.out.setCell (by simp; omega) _⟩

end Go.Proofs.Ytnfmcgfiaekaiaa
