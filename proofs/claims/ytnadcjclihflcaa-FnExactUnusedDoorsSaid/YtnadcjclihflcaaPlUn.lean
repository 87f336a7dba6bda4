/- UnusedDoors of the program. -/
import Derived.Test.YtnadcjclihflcaaPlF
namespace Go.Proofs.Ytnadcjclihflcaa
open Go Go.RowKit

set_option maxRecDepth 100000 in
set_option maxHeartbeats 2000000 in
theorem unusedDoors_any (A B V : Option Addr) (n c k d q e0 : Nat) (P : List Int) (D : List Bool) (R : List (List Int)) (w : World) (h : Pl w A n B k V q P D R) (hn : n ≤ 1048576) (hk : k ≤ 1048576) (hq : q + sizeL R ≤ 1048576) :
    Calls Try.prog 46 #[.agg #[.slice A n c, .slice B k d, .slice V q e0]] w (GivesList w (pE P D R) (unL P D R)) := by
  have c1 := (Below.refl w.heap.size w).alloc (Nat.le_refl _) (.cells #[.slice A n c, .slice B k d, .slice V q e0] 30)
  have h0 := Lib.hid (h.on c1)
  obtain ⟨p0, p1, p2⟩ := (Cell3.new w 30 (.slice A n c) (.slice B k d) (.slice V q e0)).cells
  have C0 := Lib.hid c1
  have H := Lib.hid h
  clear c1 h
  obtain ⟨z, hz⟩ : ∃ z, pE P D R = z := ⟨_, rfl⟩
  have HZ := Lib.hid hz
  by_cases hz0 : z = 0
  rotate_left
  · have HD : Hid (unL P D R = []) := Lib.hid (un_bad hz hz0)
    rw [hz, HD.out]
    have ht : (z != 0) = true := by simpa using hz0
    go_enter Try.func46, Try.ntmps46
    go_wp2_with fail
    refine (sheetOf_any A B V _ n c k d q e0 0 0 P D R [] _ h0.out ⟨rfl, fun h => absurd h (by omega)⟩ hn hk hq (by omega)).mono ?_
    rw [shE_none, HZ.out]
    rintro e w1 ⟨⟨s1, s2, s3, rfl, hs, hs'⟩, b1⟩
    obtain ⟨rfl, rfl, rfl⟩ := hs' hz0
    have C2 := Lib.hid ((below_trans' C0.out b1).alloc (below_trans' C0.out b1).size (.cells #[.slice none 0 0, .slice none 0 0, .slice none 0 0] 84))
    clear b1 p0 p1 p2 hz hs hs' hz0
    go_wp2
    go_ret2
    exact ⟨none, 0, 0, rfl, Own.nil _ (Nat.le_refl _), by omega, by omega, by omega, C2.out⟩
  have hp := pE_zero (by rw [hz, hz0])
  subst hz0
  obtain ⟨hT, n2, n24, hkn, q1, q10, hrig, hr⟩ := plan_facts H.out hp
  subst hkn
  have HT := Lib.hid hT
  have HL := Lib.hid H.out.b.ps.len
  have HG := Lib.hid hrig
  have HR := Lib.hid hr
  have HQ := Lib.hid H.out.r.len
  have HP := Lib.hid hp
  have HQS := Lib.hid hq
  have HPE := Lib.hid hz
  clear hT hr hrig hp hz
  go_enter Try.func46, Try.ntmps46
  go_wp2_with fail
  refine (sheetOf_any A B V _ k c k d q e0 0 0 P D R [] _ h0.out ⟨rfl, fun h => absurd h (by omega)⟩ hn hk hq (by omega)).mono ?_
  rw [shE_none, HZ.out]
  rintro e w1 ⟨⟨s1, s2, s3, rfl, hs, hs'⟩, b1⟩
  obtain ⟨rfl, rfl, rfl⟩ := hs rfl
  have C1 := Lib.hid (below_trans' C0.out b1)
  have C2 := Lib.hid (C1.out.alloc C1.out.size (.cells #[.slice A k c, .slice B k d, .slice V q e0] 84))
  have K2 := Lib.hid (Cell3.new w1 84 (.slice A k c) (.slice B k d) (.slice V q e0))
  clear hs hs' b1 p0 p1 p2 C0 h0
  obtain ⟨p0, p1, p2⟩ := K2.out.cells
  have HD : Hid (unL P D R = amD D (noneB P R) k) := Lib.hid (by unfold unL; rw [HP.out, HL.out]; rfl)
  go_wp2_with fail
  refine (nodesUnder_any A B k c k d 0 P D _ (H.out.on C2.out).b HT.out HL.out n24 (by omega)).mono ?_
  rintro e w2 ⟨rfl, b2⟩
  have C3 := below_trans' C2.out b2
  have K3 := K2.out.on b2
  have l1 := K3.lt
  obtain ⟨rr, hrr⟩ : ∃ rr, rr = inN k (und P 0) := ⟨_, rfl⟩
  rw [← hrr]
  have HRE := Lib.hid hrr
  have Z2 := Set24.new w2
  have T2 := Lib.hid Z2.there
  have S2 : Hid (Set24 ((w2.alloc (.cells #[.bool false, .bool false, .bool false, .bool false, .bool false, .bool false, .bool false, .bool false, .bool false, .bool false, .bool false, .bool false, .bool false, .bool false, .bool false, .bool false, .bool false, .bool false, .bool false, .bool false, .bool false, .bool false, .bool false, .bool false] 89)).setCells w2.heap.size 0 (set24 rr).toList) w2.heap.size rr) := Lib.hid Z2.stored
  have bA := below_setCells w2.heap.size (Nat.le_refl _) (set24 rr).toList 0 _ ((Below.refl w2.heap.size w2).alloc (Nat.le_refl _) (.cells #[.bool false, .bool false, .bool false, .bool false, .bool false, .bool false, .bool false, .bool false, .bool false, .bool false, .bool false, .bool false, .bool false, .bool false, .bool false, .bool false, .bool false, .bool false, .bool false, .bool false, .bool false, .bool false, .bool false, .bool false] 89))
  have C4 := Lib.hid (below_trans' C3 bA)
  have K4 := Lib.hid (K3.on bA)
  have C6 := Lib.hid C3
  have HZ := Lib.hid Try.info24
  have HU := Lib.hid Try.und24
  have HSO := Lib.hid (set24_one rr)
  clear b2 p0 p1 p2 bA K2 C2 C3 K3 Z2 hrr
  go_upto_region 5 with (refine wpList_store_mid rfl 89 _ _ rfl w2.heap.size 0 (set24 rr) rfl rfl T2.out HZ.out HSO.out ?_)
  generalize (w2.alloc (.cells #[.bool false, .bool false, .bool false, .bool false, .bool false, .bool false, .bool false, .bool false, .bool false, .bool false, .bool false, .bool false, .bool false, .bool false, .bool false, .bool false, .bool false, .bool false, .bool false, .bool false, .bool false, .bool false, .bool false, .bool false] 89)).setCells w2.heap.size 0 (set24 rr).toList = w3 at *
  obtain ⟨p0, p1, p2⟩ := K4.out.cells
  have S3 : Hid (Set24 w3 w2.heap.size (fun i => rr i && !((R.take 0).any fun xs => inN k (anyU P xs) i))) := Lib.hid (by
    have := S2.out
    unfold Set24 at *
    rw [this, set24_congr (fun i _ => ?_)]
    simp)
  clear S2 T2 HSO
  go_wp2
  clear p0 p1 p2
  go_loopw [24] (fun i wr => ∃ j : Nat, j ≤ q ∧ i = .int .i64 j ∧ Hid (Set24 wr w2.heap.size (fun i => rr i && !((R.take j).any fun xs => inN k (anyU P xs) i))) ∧ Hid (Cell3 wr w1.heap.size 84 (.slice A k c) (.slice B k d) (.slice V q e0)) ∧ Hid (Below w.heap.size w wr)) (fun i _ => q - (intOf i).toNat)
  case atStart => exact ⟨0, Nat.zero_le _, rfl, S3, K4, C4⟩
  case round =>
    obtain ⟨j, hj, rfl, HS, HK, HB⟩ := hrel
    clear S3 K4 C4
    obtain ⟨p0, p1, p2⟩ := HK.out.cells
    by_cases hlt : j < q
    · have i4 : (0 : Int) ≤ (j : Int) := by omega
      have i5 : (j : Int) < (q : Int) := by omega
      obtain ⟨ys, hys⟩ : ∃ ys, ys = R.getD j [] := ⟨_, rfl⟩
      have HY : Hid (R[j]? = some ys) := Lib.hid (by
        have hl : j < R.length := by rw [HQ.out]; exact hlt
        rw [hys, List.getD_eq_getElem?_getD, List.getElem?_eq_getElem hl]; rfl)
      go_wp2_with fail
      refine (reach_any A B V k c k d q e0 j P D R _ (H.out.on HB.out) HT.out (by omega) n24 hlt HQS.out (HR.out j hlt)).mono ?_
      rw [← hys]
      clear hys
      rintro e w4 ⟨rfl, b4⟩
      have S4 := HS.out.on b4
      have K4 := Lib.hid (HK.out.on b4)
      have B4 := Lib.hid (below_trans' HB.out b4)
      clear b4 p0 p1 p2 HS HK HB
      obtain ⟨uu, huu⟩ : ∃ uu : Nat → Bool, uu = (fun i => rr i && !((R.take j).any fun xs => inN k (anyU P xs) i)) := ⟨_, rfl⟩
      rw [← huu] at S4
      have HUU := Lib.hid huu
      have S5 : Hid (Set24 w4 w2.heap.size (fun i => uu i && !(decide (i < 0) && inN k (anyU P ys) i))) := Lib.hid (by
        unfold Set24 at *
        rw [S4, set24_congr (fun i _ => ?_)]
        simp)
      clear huu S4
      go_wp2
      go_loopw [30] (fun i wr => ∃ t : Nat, t ≤ 24 ∧ i = .int .i64 t ∧ Hid (Set24 wr w2.heap.size (fun i => uu i && !(decide (i < t) && inN k (anyU P ys) i))) ∧ Hid (Cell3 wr w1.heap.size 84 (.slice A k c) (.slice B k d) (.slice V q e0)) ∧ Hid (Below w.heap.size w wr)) (fun i _ => 24 - (intOf i).toNat)
      case atStart => exact ⟨0, Nat.zero_le _, rfl, S5, K4, B4⟩
      case round =>
        obtain ⟨t, ht, rfl, HS, HK, HB⟩ := hrel
        clear S5 K4 B4
        by_cases hlt2 : t < 24
        · have i6 : (0 : Int) ≤ (t : Int) := by omega
          have i7 : (t : Int) < 24 := by omega
          have hx : ∀ w', (Instr.index 89 (.agg (set24 (inN k (anyU P ys)))) (.int .i64 (t : Int))).run Try.prog w' = .ok (.bool (inN k (anyU P ys) t)) w' := fun w' => run_index24 w' _ t hlt2
          rcases hv : inN k (anyU P ys) t with _ | _
          · have S7 : Hid (Set24 wr w2.heap.size (fun i => uu i && !(decide (i < t + 1) && inN k (anyU P ys) i))) := Lib.hid (by
              have := HS.out
              unfold Set24 at *
              rw [this, set24_congr (fun i _ => ?_)]
              by_cases e : i = t
              · subst e; simp [hv]
              · have : (i < t + 1) = (i < t) := by apply propext; omega
                simp [this])
            rw [hv] at hx
            clear hv
            go_wp2
            go_roundw
            case rel => exact ⟨t + 1, by omega, by go_num, S7, HK, HB⟩
            case measure => simp [intOf]; omega
          · have hcs := HS.out.cell (i := t) hlt2
            have hfz := HS.out.thawed t
            have S7 : Hid (Set24 (wr.setCell ⟨w2.heap.size, t, none⟩ (.bool false)) w2.heap.size (fun i => uu i && !(decide (i < t + 1) && inN k (anyU P ys) i))) := Lib.hid (by
              have := HS.out.putB t false
              unfold Set24 at *
              rw [this, set24_congr (fun i _ => ?_)]
              by_cases e : i = t
              · subst e; simp [hv]
              · have : (i < t + 1) = (i < t) := by apply propext; omega
                simp [e, this])
            have G7 : Hid (wr.grownBy (wr.setCell ⟨w2.heap.size, t, none⟩ (.bool false)) (some w2.heap.size)) := Lib.hid (grown_set (p := ⟨w2.heap.size, t, none⟩) (World.grownBy.refl wr _) rfl _)
            have K7 := Lib.hid (HK.out.grown G7.out (fun e => by injection e with e; omega))
            have B7 := Lib.hid (below_grown HB.out G7.out (fun g e => by injection e with e; have := C6.out.size; omega))
            rw [hv] at hx
            clear hv
            go_wp2
            go_roundw
            case rel => exact ⟨t + 1, by omega, by go_num, S7, K7, B7⟩
            case measure => simp [intOf]; omega
        · obtain rfl : t = 24 := by omega
          have S8 : Hid (Set24 wr w2.heap.size (fun i => rr i && !((R.take (j + 1)).any fun xs => inN k (anyU P xs) i))) := Lib.hid (by
            have := HS.out
            obtain ⟨hl, e⟩ := List.getElem?_eq_some_iff.1 HY.out
            unfold Set24 at *
            rw [this, set24_congr (fun i hi => ?_)]
            rw [HUU.out, List.take_succ_eq_append_getElem hl, List.any_append, e]
            simp [hi, Bool.and_assoc])
          clear HS
          go_wp2
          go_roundw
          case rel => exact ⟨j + 1, by omega, by go_num, S8, HK, HB⟩
          case measure => simp [intOf]; omega
    · have HAM : Hid (amD D (fun i => rr i && !((R.take j).any fun xs => inN k (anyU P xs) i)) k = amD D (noneB P R) k) := Lib.hid (amD_congr (fun i hi => by
        rw [List.take_of_length_le (by rw [HQ.out]; omega), HRE.out]
        have h1 : inN k (und P 0) i = true := by unfold inN; simp [hi, und_zero HT.out (show i < P.length by rw [HL.out]; exact hi)]
        rw [h1, Bool.true_and]
        unfold noneB
        congr 1
        rw [Bool.eq_iff_iff, List.any_eq_true, List.any_eq_true]
        unfold inN
        simp [hi]))
      have R1 := Lib.hid HS.out.range
      go_wp2_with (refine wpList_load_mid rfl 89 _ rfl w2.heap.size 0 rfl _ _ R1.out HU.out rfl HZ.out ?_)
      refine (doorsAmong_any A B k c k d P D _ _ (H.out.on HB.out).b n24 (by omega)).mono ?_
      rw [HAM.out]
      rintro e w9 ⟨A9, n9, c9, rfl, ho, h1, h2, h3, b9⟩
      have HO := Lib.hid (ho.more HB.out.size (Nat.le_refl _) (Nat.le_refl _))
      have C9 := Lib.hid (below_trans' HB.out b9)
      clear ho b9 p0 p1 p2 R1
      go_wp2
      go_ret2
      exact ⟨_, _, _, by rw [HPE.out]; rfl, by rw [HD.out]; exact HO.out, h1, h2, h3, C9.out⟩

end Go.Proofs.Ytnadcjclihflcaa
