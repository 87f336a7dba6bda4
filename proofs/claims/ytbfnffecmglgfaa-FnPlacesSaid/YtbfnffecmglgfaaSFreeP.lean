/- FreePlaces of the model. -/
import Derived.Test.YtbfnffecmglgfaaSWorn
import Derived.Test.YtbfnffecmglgfaaWearL
namespace Go.Proofs.Ytbfnffecmglgfaa
open Go Go.RowKit

theorem fp_code {m : Mk} {yss : List (List Int)} {ch t : Int} (h : wlkE m yss 0 t ≠ 0) : fpE m yss ch t = wlkE m yss 0 t ∧ fpL m yss ch t = [] := by
  unfold wlkE at *
  unfold fpE fpL
  rw [fit_wear (by omega : (0 : Int) ≤ 0) (by omega)] at *
  rcases hL : lockB m yss with _ | _
  · simp
  · rcases hT : isTol t with _ | _
    · simp
    · rw [hL, hT] at h; simp at h
theorem fp_rest {m : Mk} {yss : List (List Int)} {t : Int} (h : wlkE m yss 0 t = 0) (ch : Int) : lockB m yss = true ∧ isTol t = true ∧ fpE m yss ch t = (if inB ch 0 (m.C - 1) then 0 else 2) ∧ fpL m yss ch t = if inB ch 0 (m.C - 1) then freeTo (setP yss ch.toNat) t (70 + t + 1).toNat else [] := by
  obtain ⟨hL, hF⟩ := wlkE_facts h
  rw [fit_wear (by omega : (0 : Int) ≤ 0) (by omega)] at hF
  unfold fpE fpL
  rw [hL, hF]
  exact ⟨rfl, rfl, by simp, by simp⟩

set_option maxRecDepth 100000 in
set_option maxHeartbeats 8000000 in
theorem specFreePlaces_any (m : Mk) (V : Option Addr) (n c : Nat) (yss : List (List Int)) (ch t : Int) (w : World) (h : Sets w w.heap.size V n yss) (hn : n + sizeL yss ≤ 1048576) :
    Calls Try.prog 66 #[.agg #[.int .i64 m.C, .int .i64 m.D, .int .i64 m.S, .int .i64 m.M, .int .i64 m.L], .agg #[.slice V n c], .int .i64 ch, .int .i64 t] w (GivesList w (fpE m yss ch t) (fpL m yss ch t)) := by
  have K0 := Lib.hid (IArg.new w m V n c)
  have HS := Lib.hid h
  have HLN := Lib.hid h.len
  have HN := Lib.hid hn
  clear h hn
  obtain ⟨q0, q1, q2, q3, q4, ck⟩ := K0.out.cells
  by_cases hz : wlkE m yss 0 t = 0
  rotate_left
  · have HE := Lib.hid (fp_code (ch := ch) hz)
    rw [HE.out.1, HE.out.2]
    have htest : (wlkE m yss 0 t != 0) = true := by simpa using hz
    have htest2 : (wlkE m yss 0 t == 0) = false := by simpa using hz
    obtain ⟨z, hz2⟩ : ∃ z, wlkE m yss 0 t = z := ⟨_, rfl⟩
    rw [hz2] at htest htest2 ⊢
    have HZ2 := Lib.hid hz2
    clear hz hz2
    go_enter Try.func66, Try.ntmps66
    go_wp2_with fail
    refine (l08Lock_any m _ _ _ yss 0 t _ (HS.out.on K0.out.c) HN.out).mono ?_
    rw [HZ2.out]
    rintro e w1 ⟨rfl, b1⟩
    have c1 := (K0.out.on b1).c
    clear q0 q1 q2 q3 q4 ck
    go_wp2
    go_ret2
    exact ⟨none, 0, 0, rfl, Own.nil _ (Nat.le_refl _), by omega, by omega, by omega, c1⟩
  obtain ⟨hL, hT, hE, hLs⟩ := fp_rest hz ch
  have HZ := Lib.hid hz
  obtain ⟨hm, hCn, _⟩ := lockB_facts hL
  obtain ⟨m1, m2, m3, m4, m5, m6, m7, m8, m9, m10, m11⟩ := Mk.ok_true hm
  have H7 := Lib.hid (wk_sets hL)
  have g1 : IntKind.i64.wrap (m.C - 1) = m.C - 1 := IntWalk.i64_in _ (by omega)
  have hCN := hCn
  clear m3 m4 m5 m6 m7 m8 m9 m10 m11 hm hz
  rcases hC : inB ch 0 (m.C - 1) with _ | _
  · rw [hE, hLs, hC]
    clear hE hLs hL hCn hCN
    go_enter Try.func66, Try.ntmps66
    go_wp2_with fail
    refine (l08Lock_any m _ _ _ yss 0 t _ (HS.out.on K0.out.c) HN.out).mono ?_
    rw [HZ.out]
    rintro e w1 ⟨rfl, b1⟩
    have K1 := Lib.hid (K0.out.on b1)
    have c1 := K1.out.c
    clear q0 q1 q2 q3 q4 ck
    obtain ⟨q0, q1, q2, q3, q4, ck⟩ := K1.out.cells
    go_wp2_with fail
    refine (l01In_at _ _ _ _ _ hC).mono ?_
    rintro e w2 ⟨rfl, rfl⟩
    go_wp2
    go_ret2
    exact ⟨none, 0, 0, rfl, Own.nil _ (Nat.le_refl _), by omega, by omega, by omega, c1⟩
  rw [hE, hLs, hC]
  obtain ⟨t0, t4⟩ := tol_facts hT
  obtain ⟨c0, c5⟩ := inB_true.1 hC
  obtain ⟨cn, rfl⟩ : ∃ cn : Nat, ch = (cn : Int) := ⟨ch.toNat, by omega⟩
  have hcn : cn < n := by have := HLN.out; omega
  have i0 : (0 : Int) ≤ (cn : Int) := by omega
  have i1 : (cn : Int) < (n : Int) := by omega
  have HFT : Hid (freeTo (setP yss cn) t 81 = freeTo (setP yss ((cn : Int)).toNat) t (70 + t + 1).toNat) := Lib.hid (by rw [freeTo_all t0 t4, show ((cn : Int)).toNat = cn by omega])
  rw [if_pos rfl, if_pos rfl, ← HFT.out]
  have HTC := Lib.hid hC
  obtain ⟨ii, hi0, hz0, hz1, hz2⟩ := info_parts Try.info2'
  have HF := Lib.hid (And.intro hi0 (And.intro hz0 (And.intro hz1 hz2)))
  clear hE hLs hL hC hi0 hz0 hz1 hz2 hCn hCN
  go_enter Try.func66, Try.ntmps66
  go_wp2_with fail
  refine (l08Lock_any m _ _ _ yss 0 t _ (HS.out.on K0.out.c) HN.out).mono ?_
  rw [HZ.out]
  rintro e w1 ⟨rfl, b1⟩
  have K1 := Lib.hid (K0.out.on b1)
  clear q0 q1 q2 q3 q4 ck K0 b1
  obtain ⟨q0, q1, q2, q3, q4, ck⟩ := K1.out.cells
  go_wp2_with fail
  refine (l01In_at _ _ _ _ _ HTC.out).mono ?_
  rintro e w2 ⟨rfl, rfl⟩
  have bA := (Below.refl w1.heap.size w1).alloc (Nat.le_refl _) (.cells #[] 2)
  have K2 := Lib.hid (K1.out.on bA)
  have R2 := Lib.hid (rowNil (w := w1) (t := 2) (s := 1) (base := w1.heap.size) (Nat.le_refl _))
  have hz1 := K1.out.c.size
  have hk1 := K1.out.k.lt
  clear q0 q1 q2 q3 q4 ck K1 bA
  obtain ⟨ad, ys, _, _, _, rfl, _, hy, _, _, _, _⟩ := HS.out.at_ hcn
  have HY := Lib.hid hy
  have H7Y := Lib.hid (H7.out cn ys hy)
  have HFL : Hid (∀ x, freeL ys t x = freeAt (setP yss cn) t x) := Lib.hid (fun x => by rw [freeL_is H7Y.out, setP_at HY.out])
  clear hy
  go_wp2
  go_loopw [11, 12] (fun y x wr => ∃ (k l : Nat) (v : Value), v = y ∧ x = .int .i64 k ∧ k ≤ 81 ∧ Hid (l = (freeTo (setP yss cn) t k).length) ∧ Hid (wr.ownsRow w1.heap.size 2 1 v l (intsV (freeTo (setP yss cn) t k))) ∧ Hid (IArg w wr m (some ad) n c) ∧ w1.heap.size ≤ wr.heap.size) (fun _ x _ => 81 - (intOf x).toNat)
  case atStart => exact ⟨0, 0, _, rfl, rfl, by omega, Lib.hid rfl, R2, K2, by simp⟩
  case round =>
    obtain ⟨k, l, v, rfl, rfl, hk, hl, hrow, HK, hw1⟩ := hrel
    clear R2 K2
    have hll := freeTo_len (setP yss cn) t k
    by_cases hlt : (k : Int) ≤ 80
    · obtain ⟨ad2, ys2, A, q, cc, e2, hab, hy2, hc, hin, _, _⟩ := (HS.out.on HK.out.c).at_ hcn
      obtain rfl : ad = ad2 := by injection e2
      obtain rfl : ys = ys2 := by have := HY.out; rw [this] at hy2; injection hy2
      have hq2 : q ≤ 1048576 := by have := fits_at HN.out HY.out; have := hin.len; omega
      have HIN := Lib.hid hin
      have ck := HK.out.k.cell
      obtain ⟨b, hb⟩ : ∃ b, freeAt (setP yss cn) t (k : Int) = b := ⟨_, rfl⟩
      have HB := Lib.hid hb
      have HFB := Lib.hid ((HFL.out (k : Int)).trans hb)
      have hl80 : l ≤ 80 := by have := hl.out; omega
      clear hin hy2 hb e2 hll
      go_wp2_with fail
      refine (l08Free_any A q cc ys (k : Int) t _ HIN.out hq2 H7Y.out (by omega) (by omega)).mono ?_
      rw [HFB.out]
      rintro e w' ⟨rfl, rfl⟩
      clear hc ck HIN HFB hab
      rcases b with _ | _
      · have L2 : Hid (l = (freeTo (setP yss cn) t (k + 1)).length) := Lib.hid (by rw [freeTo_no HB.out]; exact hl.out)
        have R5 : Hid (wr.ownsRow w1.heap.size 2 1 v l (intsV (freeTo (setP yss cn) t (k + 1)))) := Lib.hid (by rw [freeTo_no HB.out]; exact hrow.out)
        go_wp2
        go_roundw
        case rel => exact ⟨k + 1, l, v, rfl, by go_num, by omega, L2, R5, HK, hw1⟩
        case measure => simp [intOf]; omega
      · have L2 : Hid (l + 1 = (freeTo (setP yss cn) t (k + 1)).length) := Lib.hid (by rw [freeTo_yes HB.out, List.length_append, ← hl.out]; rfl)
        have hbase : ∀ k, v.ownBlock = some k → w1.heap.size ≤ k := rowBase hrow.out
        have HRR := Lib.hid hrow.out
        have hsz2 := HK.out.c.size
        have hszk := HK.out.k.lt
        go_wp2_with (at_builtin; refine wpList_append_lies _ rfl _ _ 39 rfl w1.heap.size 2 ii _ 1 8 Try.underlying39 HF.out.1 HF.out.2.1 HF.out.2.2.1 HF.out.2.2.2 rfl (by omega) _ l _ rfl (HRR.out.alloc _) ⟨wr.heap.size, 0, none⟩ 1 1 [.int .i64 (k : Int)] rfl rfl (World.news_of_block (cs := #[.int .i64 (k : Int)]) (t := 2) (fr := (0, 0)) (heap_alloc_new wr _)) (by simp [Value.oneCell']) (by omega) (by unfold maxLen; omega) (by omega) (by simp; omega) (wr.heap.size + 1) (by simp) ?_; intro gg cap w5 hown1 hgrow hat hlt3)
        have R5 : Hid (w5.ownsRow w1.heap.size 2 1 (.slice (some ⟨gg, 0, none⟩) (l + 1) cap) (l + 1) (intsV (freeTo (setP yss cn) t (k + 1)))) := Lib.hid (by
          rw [freeTo_yes HB.out, ← intsV_snoc]
          exact hown1)
        have K5 : Hid (IArg w w5 m (some ad) n c) := Lib.hid ⟨(HK.out.x.alloc (.cells #[.int .i64 (k : Int)] 2)).grown hgrow (by intro e; have := hbase _ e.symm; omega), (HK.out.k.alloc (.cells #[.int .i64 (k : Int)] 2)).grown hgrow (by intro e; have := hbase _ e.symm; omega), (HK.out.c.alloc hsz2 (.cells #[.int .i64 (k : Int)] 2)).grown hgrow (by simp; omega) (fun q e => by have := hbase q e; omega)⟩
        have hw5 : w1.heap.size ≤ w5.heap.size := by have := hgrow.size; rw [World.size_alloc] at this; omega
        clear hown1 hgrow hat hlt3 hbase
        go_wp2
        go_roundw
        case rel => exact ⟨k + 1, l + 1, _, rfl, by go_num, by omega, L2, R5, K5, hw5⟩
        case measure => simp [intOf]; omega
    · obtain rfl : k = 81 := by omega
      obtain ⟨A, q, rfl, ho, hqc, hqm⟩ := rowInts hrow.out hl.out.symm
      have HO := Lib.hid (ho.widen (W := w) hz1)
      have HC := Lib.hid HK.out.c
      have hl81 : l ≤ 1048576 := by have := hl.out; omega
      clear ho hrow HK hll
      go_wp2
      go_ret2
      exact ⟨A, l, q, rfl, HO.out, hl81, hqc, hqm, HC.out⟩

end Go.Proofs.Ytbfnffecmglgfaa
