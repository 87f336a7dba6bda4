/- KeysFor of the program. -/
import Derived.Test.YtnadcjclihflcaaPlF
namespace Go.Proofs.Ytnadcjclihflcaa
open Go Go.RowKit

set_option maxRecDepth 100000 in
set_option maxHeartbeats 2000000 in
theorem keysFor_any (A B V : Option Addr) (n c k d q e0 : Nat) (P : List Int) (D : List Bool) (R : List (List Int)) (y : Int) (w : World) (h : Pl w A n B k V q P D R) (hn : n ≤ 1048576) (hk : k ≤ 1048576) (hq : q + sizeL R ≤ 1048576) :
    Calls Try.prog 30 #[.agg #[.slice A n c, .slice B k d, .slice V q e0], .int .i64 y] w (GivesList w (pdE P D R y) (kfL P D R y)) := by
  have c1 := (Below.refl w.heap.size w).alloc (Nat.le_refl _) (.cells #[.slice A n c, .slice B k d, .slice V q e0] 30)
  have h0 := Lib.hid (h.on c1)
  obtain ⟨p0, p1, p2⟩ := (Cell3.new w 30 (.slice A n c) (.slice B k d) (.slice V q e0)).cells
  have C0 := Lib.hid c1
  have H := Lib.hid h
  clear c1 h
  obtain ⟨z, hz⟩ : ∃ z, pE P D R = z := ⟨_, rfl⟩
  have HZ := Lib.hid hz
  by_cases hz0 : z = 0
  rotate_left
  · have HD : Hid (pdE P D R y = z ∧ kfL P D R y = []) := Lib.hid (pd_bad hz hz0)
    rw [HD.out.1, HD.out.2]
    have ht : (z != 0) = true := by simpa using hz0
    go_enter Try.func30, Try.ntmps30
    go_wp2_with fail
    refine (sheetOf_any A B V _ n c k d q e0 0 0 P D R [] _ h0.out ⟨rfl, fun h => absurd h (by omega)⟩ hn hk hq (by omega)).mono ?_
    rw [shE_none, HZ.out]
    rintro e w1 ⟨⟨s1, s2, s3, rfl, hs, hs'⟩, b1⟩
    obtain ⟨rfl, rfl, rfl⟩ := hs' hz0
    have C2 := Lib.hid ((below_trans' C0.out b1).alloc (below_trans' C0.out b1).size (.cells #[.slice none 0 0, .slice none 0 0, .slice none 0 0] 84))
    clear b1 p0 p1 p2 hz hs hs' hz0
    go_wp2
    go_ret2
    exact ⟨none, 0, 0, rfl, Own.nil _ (Nat.le_refl _), by omega, by omega, by omega, C2.out⟩
  have hp := pE_zero (by rw [hz, hz0])
  subst hz0
  obtain ⟨hT, n2, n24, hkn, q1, q10, hrig, hr⟩ := plan_facts H.out hp
  subst hkn
  have HT := Lib.hid hT
  have HL := Lib.hid H.out.b.ps.len
  have HG := Lib.hid hrig
  have HR := Lib.hid hr
  have HQ := Lib.hid H.out.r.len
  have HP := Lib.hid hp
  have HQS := Lib.hid hq
  clear hT hr hrig hp hz
  go_enter Try.func30, Try.ntmps30
  go_wp2_with fail
  refine (sheetOf_any A B V _ k c k d q e0 0 0 P D R [] _ h0.out ⟨rfl, fun h => absurd h (by omega)⟩ hn hk hq (by omega)).mono ?_
  rw [shE_none, HZ.out]
  rintro e w1 ⟨⟨s1, s2, s3, rfl, hs, hs'⟩, b1⟩
  obtain ⟨rfl, rfl, rfl⟩ := hs rfl
  have C1 := Lib.hid (below_trans' C0.out b1)
  have C2 := Lib.hid (C1.out.alloc C1.out.size (.cells #[.slice A k c, .slice B k d, .slice V q e0] 84))
  have K2 := Lib.hid (Cell3.new w1 84 (.slice A k c) (.slice B k d) (.slice V q e0))
  clear hs hs' b1 p0 p1 p2 C0 h0
  obtain ⟨p0, p1, p2⟩ := K2.out.cells
  go_wp2_with fail
  refine (isDoor_any A B V k c k d q e0 P D y _ (H.out.on C2.out).b hk).mono ?_
  obtain ⟨hme, hmv⟩ := pd_at (y := y) HP.out HQ.out HL.out
  obtain ⟨ii, hi0, hz0', hz1, hz2⟩ := info_parts Try.info2'
  have HF := Lib.hid (And.intro hi0 (And.intro hz0' (And.intro hz1 hz2)))
  clear hi0 hz0' hz1 hz2
  rcases hd : (inB y 0 ((k : Int) - 1) && dor D y.toNat) with _ | _
  · have HM : Hid (pdE P D R y = 2 ∧ kfL P D R y = []) := Lib.hid ⟨by rw [hme, hd]; rfl, by rw [hmv, hd]; rfl⟩
    rintro e w3 ⟨rfl, b3⟩
    have C3 := Lib.hid (below_trans' C2.out b3)
    clear b3 hd hme hmv p0 p1 p2
    go_wp2
    go_ret2
    exact ⟨none, 0, 0, by rw [HM.out.1]; rfl, by rw [HM.out.2]; exact Own.nil _ (Nat.le_refl _), by omega, by omega, by omega, C3.out⟩
  · have hy := (Bool.and_eq_true _ _ ▸ hd).1
    rw [inB_true] at hy
    obtain ⟨Y, rfl⟩ := Int.eq_ofNat_of_zero_le hy.1
    have hY : Y < k := by omega
    have HM : Hid (pdE P D R (Y : Int) = 0 ∧ kfL P D R (Y : Int) = keysTo P R Y q) := Lib.hid ⟨by rw [hme, hd]; rfl, by rw [hmv, hd]; rfl⟩
    rintro e w3 ⟨rfl, b3⟩
    have C3 := below_trans' C2.out b3
    have K3 := K2.out.on b3
    have R2 := Lib.hid (rowNil (w := w3) (t := 2) (s := 1) (base := w3.heap.size) (Nat.le_refl _))
    have bB := (Below.refl w3.heap.size w3).alloc (Nat.le_refl _) (.cells #[] 2)
    have K4 := Lib.hid (K3.on bB)
    have C4 := Lib.hid (below_trans' C3 bB)
    have C5 := Lib.hid C3
    have l1 := K3.lt
    obtain ⟨q0, q1', q2⟩ := K4.out.cells
    have i2 : (0 : Int) ≤ (Y : Int) := by omega
    have i3 : (Y : Int) < 24 := by omega
    have hz0' : w3.heap.size ≤ (w3.alloc (.cells #[] 2)).heap.size := bB.size
    clear b3 hd hme hmv hy p0 p1 p2 bB C3 K3 C2 K2
    go_wp2
    clear q0 q1' q2
    go_loopw [8, 26] (fun y x wr => ∃ (j r : Nat) (pv : Value), j ≤ q ∧ x = .int .i64 j ∧ y = pv ∧ r ≤ j ∧ Hid ((keysTo P R Y j).length = r) ∧ Hid (wr.ownsRow w3.heap.size 2 1 pv r (intsV (keysTo P R Y j))) ∧ Hid (Cell3 wr w1.heap.size 84 (.slice A k c) (.slice B k d) (.slice V q e0)) ∧ Hid (Below w.heap.size w wr) ∧ w3.heap.size ≤ wr.heap.size) (fun _ x _ => q - (intOf x).toNat)
    case atStart => exact ⟨0, 0, _, Nat.zero_le _, rfl, rfl, Nat.le_refl _, Lib.hid rfl, R2, K4, C4, hz0'⟩
    case round =>
      obtain ⟨j, r, pv, hj, rfl, rfl, hr, HQ2, HR2, HK, HB, hzw⟩ := hrel
      clear R2 K4 C4 hz0'
      obtain ⟨A1, c1, rfl, _, _, _⟩ := rowInts HR2.out HQ2.out
      obtain ⟨q0, q1', q2⟩ := HK.out.cells
      by_cases hlt : j < q
      · have i4 : (0 : Int) ≤ (j : Int) := by omega
        have i5 : (j : Int) < (q : Int) := by omega
        obtain ⟨ys, hys⟩ : ∃ ys, ys = R.getD j [] := ⟨_, rfl⟩
        have HYS := Lib.hid hys
        have hx : ∀ w', (Instr.index 89 (.agg (set24 (inN k (anyU P ys)))) (.int .i64 (Y : Int))).run Try.prog w' = .ok (.bool (anyU P ys Y)) w' := fun w' => (run_index24 w' _ Y (by omega)).trans (by unfold inN; simp [hY])
        go_wp2_with fail
        refine (reach_any A B V k c k d q e0 j P D R _ (H.out.on HB.out) HT.out (by omega) n24 hlt HQS.out (HR.out j hlt)).mono ?_
        rw [← hys]
        clear hys
        rintro e w4 ⟨rfl, b4⟩
        have R4 := Lib.hid (rowBelow HR2.out b4)
        have K4 := Lib.hid (HK.out.on b4)
        have B4 := Lib.hid (below_trans' HB.out b4)
        have z4 := b4.size
        clear b4 q0 q1' q2 HR2 HK
        rcases hv : anyU P ys Y with _ | _
        · have HN := Lib.hid (keysTo_no (by rw [← HYS.out]; exact hv))
          rw [hv] at hx
          clear hv
          go_wp2
          go_roundw
          case rel => exact ⟨j + 1, r, _, by omega, by go_num, rfl, by omega, Lib.hid (by rw [HN.out]; exact HQ2.out), Lib.hid (by rw [HN.out]; exact R4.out), K4, B4, by omega⟩
          case measure => simp [intOf]; omega
        · have HN := Lib.hid (keysTo_yes (by rw [← HYS.out]; exact hv))
          rw [hv] at hx
          have hszw := B4.out.size
          have hz5 := C5.out.size
          have hls := K4.out.lt
          have HZV := Lib.hid (rowBase R4.out)
          clear hv
          go_wp2_with (at_builtin; refine wpList_append_lies _ rfl _ _ 24 rfl w3.heap.size 2 ii _ 1 8 Try.underlying24 HF.out.1 HF.out.2.1 HF.out.2.2.1 HF.out.2.2.2 rfl (by omega) _ r _ rfl (rowBelow R4.out ((Below.refl _ _).alloc (Nat.le_refl _) _)) ⟨w4.heap.size, 0, none⟩ 1 1 [.int .i64 (j : Int)] rfl rfl (World.news_of_block (cs := #[.int .i64 (j : Int)]) (t := 2) (fr := (0, 0)) (heap_alloc_new w4 _)) (by simp [Value.oneCell']) (by omega) (by unfold maxLen; omega) (by omega) (by simp; omega) (w4.heap.size + 1) (by simp) ?_; intro gg cap w5 hown1 hgrow hat hlt3)
          have R5 : Hid (w5.ownsRow w3.heap.size 2 1 (.slice (some ⟨gg, 0, none⟩) (r + 1) cap) (r + 1) (intsV (keysTo P R Y (j + 1)))) := Lib.hid (by rw [HN.out, ← intsV_snoc]; exact hown1)
          have Q5 : Hid ((keysTo P R Y (j + 1)).length = r + 1) := Lib.hid (by rw [HN.out, List.length_append, HQ2.out]; rfl)
          have K5 := Lib.hid ((K4.out.alloc (.cells #[.int .i64 (j : Int)] 2)).grown hgrow (fun e => by have := HZV.out _ e.symm; omega))
          have B5 := Lib.hid ((B4.out.alloc B4.out.size (.cells #[.int .i64 (j : Int)] 2)).grown hgrow (by simp; omega) (fun q e => by have := HZV.out q e; omega))
          have hz6 := hgrow.size
          rw [World.size_alloc] at hz6
          have hz7 : w3.heap.size ≤ w5.heap.size := by omega
          clear hown1 hgrow hat hlt3
          go_wp2
          go_roundw
          case rel => exact ⟨j + 1, r + 1, _, by omega, by go_num, rfl, by omega, Q5, R5, K5, B5, hz7⟩
          case measure => simp [intOf]; omega
      · obtain rfl : j = q := by omega
        obtain ⟨A2, c2, e, ho, h1, h2⟩ := rowInts HR2.out HQ2.out
        injection e with e1 e2 e3
        subst e1; subst e3
        have HO := Lib.hid (ho.more C5.out.size (Nat.le_refl _) (Nat.le_refl _))
        have q9 : r ≤ 1048576 := by omega
        clear ho
        go_wp2
        go_ret2
        exact ⟨_, r, _, by rw [HM.out.1]; rfl, by rw [HM.out.2]; exact HO.out, q9, h1, h2, HB.out⟩

end Go.Proofs.Ytnadcjclihflcaa
