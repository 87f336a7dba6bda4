/- LeastRights of the program. -/
import Derived.Test.YtnadcjclihflcaaPlF
namespace Go.Proofs.Ytnadcjclihflcaa
open Go Go.RowKit

set_option maxRecDepth 100000 in
set_option maxHeartbeats 2000000 in
theorem leastRights_any (A B V : Option Addr) (n c k d q e0 : Nat) (P : List Int) (D : List Bool) (R : List (List Int)) (x : Int) (w : World) (h : Pl w A n B k V q P D R) (hn : n ≤ 1048576) (hk : k ≤ 1048576) (hq : q + sizeL R ≤ 1048576) :
    Calls Try.prog 40 #[.agg #[.slice A n c, .slice B k d, .slice V q e0], .int .i64 x] w (GivesList w (pkE P D R x) (lrL P D R x)) := by
  have c1 := ((Below.refl w.heap.size w).alloc (Nat.le_refl _) (.cells #[.slice A n c, .slice B k d, .slice V q e0] 30)).alloc (by simp) (.cells #[.int .i64 x] 2)
  have h0 := Lib.hid (h.on c1)
  have x0 : Hid (Ints ((w.alloc (.cells #[.slice A n c, .slice B k d, .slice V q e0] 30)).alloc (.cells #[.int .i64 x] 2)) ((w.alloc (.cells #[.slice A n c, .slice B k d, .slice V q e0] 30)).alloc (.cells #[.int .i64 x] 2)).heap.size (some ⟨w.heap.size + 1, 0, none⟩) 1 [x]) := Lib.hid ⟨rfl, fun _ => ⟨_, rfl, by simp, fun j v hj => by
    rcases j with _ | j
    · have e : x = v := by simpa using hj
      subst e
      have := (Cell1.new (w.alloc (.cells #[.slice A n c, .slice B k d, .slice V q e0] 30)) 2 (.int .i64 x)).cell
      rw [World.size_alloc] at this
      exact (congrArg _ (add_zero' _)).trans this
    · simp at hj⟩⟩
  obtain ⟨p0, p1, p2⟩ := (Cell3.new w 30 (.slice A n c) (.slice B k d) (.slice V q e0)).cells
  have C0 := Lib.hid c1
  have H := Lib.hid h
  clear c1 h
  obtain ⟨z, hz⟩ : ∃ z, pkE P D R x = z := ⟨_, rfl⟩
  have HZ := Lib.hid hz
  by_cases hz0 : z = 0
  rotate_left
  · have HD : Hid (lrL P D R x = []) := Lib.hid (by unfold lrL; rw [hz, if_neg hz0])
    rw [hz, HD.out]
    have ht : (z != 0) = true := by simpa using hz0
    go_enter Try.func40, Try.ntmps40
    go_wp2_with fail
    refine (sheetOf_any A B V _ n c k d q e0 1 1 P D R [x] _ h0.out x0.out hn hk hq (by omega)).mono ?_
    rw [shE_one, HZ.out]
    rintro e w1 ⟨⟨s1, s2, s3, rfl, hs, hs'⟩, b1⟩
    obtain ⟨rfl, rfl, rfl⟩ := hs' hz0
    have C2 := Lib.hid ((below_trans' C0.out b1).alloc (below_trans' C0.out b1).size (.cells #[.slice none 0 0, .slice none 0 0, .slice none 0 0] 84))
    clear b1 p0 p1 p2 hz hs hs' hz0
    go_wp2
    go_ret2
    exact ⟨none, 0, 0, rfl, Own.nil _ (Nat.le_refl _), by omega, by omega, by omega, C2.out⟩
  subst hz0
  obtain ⟨hp, K, rfl, hK⟩ := pk_zero H.out.r.len hz
  obtain ⟨hT, n2, n24, hkn, q1, q10, hrig, hr⟩ := plan_facts H.out hp
  subst hkn
  have HT := Lib.hid hT
  have HL := Lib.hid H.out.b.ps.len
  have HG := Lib.hid hrig
  have HR := Lib.hid hr
  have HQ := Lib.hid H.out.r.len
  have HP := Lib.hid hp
  have HQS := Lib.hid hq
  have HD : Hid (lrL P D R (K : Int) = topTo P (whoB P D (R.getD K [])) k) := Lib.hid (by unfold lrL; rw [hz, if_pos rfl, HL.out]; rfl)
  rw [hz, HD.out]
  clear hT hr hrig hp hz
  go_enter Try.func40, Try.ntmps40
  go_wp2_with fail
  refine (sheetOf_any A B V _ k c k d q e0 1 1 P D R [(K : Int)] _ h0.out x0.out hn hk hq (by omega)).mono ?_
  rw [shE_one, HZ.out]
  rintro e w1 ⟨⟨s1, s2, s3, rfl, hs, hs'⟩, b1⟩
  obtain ⟨rfl, rfl, rfl⟩ := hs rfl
  have C1 := Lib.hid (below_trans' C0.out b1)
  have C2 := Lib.hid (C1.out.alloc C1.out.size (.cells #[.slice A k c, .slice B k d, .slice V q e0] 84))
  have K2 := Lib.hid (Cell3.new w1 84 (.slice A k c) (.slice B k d) (.slice V q e0))
  clear hs hs' b1 p0 p1 p2 C0 x0 h0
  obtain ⟨p0, p1, p2⟩ := K2.out.cells
  go_wp2_with fail
  refine (reach_any A B V k c k d q e0 K P D R _ (H.out.on C2.out) HT.out (by omega) n24 hK HQS.out (HR.out K hK)).mono ?_
  rintro e w2 ⟨rfl, b2⟩
  have C3 := below_trans' C2.out b2
  have K3 := K2.out.on b2
  have l1 := K3.lt
  have HRR := Lib.hid (HR.out K hK)
  obtain ⟨rr, hrr⟩ : ∃ rr, rr = inN k (anyU P (R.getD K [])) := ⟨_, rfl⟩
  rw [← hrr]
  have HRE := Lib.hid hrr
  have Z2 := Set24.new w2
  have T2 := Lib.hid Z2.there
  have S2 : Hid (Set24 ((w2.alloc (.cells #[.bool false, .bool false, .bool false, .bool false, .bool false, .bool false, .bool false, .bool false, .bool false, .bool false, .bool false, .bool false, .bool false, .bool false, .bool false, .bool false, .bool false, .bool false, .bool false, .bool false, .bool false, .bool false, .bool false, .bool false] 89)).setCells w2.heap.size 0 (set24 rr).toList) w2.heap.size rr) := Lib.hid Z2.stored
  have bA := below_setCells w2.heap.size (Nat.le_refl _) (set24 rr).toList 0 _ ((Below.refl w2.heap.size w2).alloc (Nat.le_refl _) (.cells #[.bool false, .bool false, .bool false, .bool false, .bool false, .bool false, .bool false, .bool false, .bool false, .bool false, .bool false, .bool false, .bool false, .bool false, .bool false, .bool false, .bool false, .bool false, .bool false, .bool false, .bool false, .bool false, .bool false, .bool false] 89))
  have C4 := Lib.hid (below_trans' C3 bA)
  have K4 := Lib.hid (K3.on bA)
  have HZ := Lib.hid Try.info24
  have HU := Lib.hid Try.und24
  have HSO := Lib.hid (set24_one rr)
  clear b2 p0 p1 p2 bA K2 C2 C3 K3 Z2 hrr
  go_upto_region 5 with (refine wpList_store_mid rfl 89 _ _ rfl w2.heap.size 0 (set24 rr) rfl rfl T2.out HZ.out HSO.out ?_)
  have l3 := S2.out.lt
  generalize (w2.alloc (.cells #[.bool false, .bool false, .bool false, .bool false, .bool false, .bool false, .bool false, .bool false, .bool false, .bool false, .bool false, .bool false, .bool false, .bool false, .bool false, .bool false, .bool false, .bool false, .bool false, .bool false, .bool false, .bool false, .bool false, .bool false] 89)).setCells w2.heap.size 0 (set24 rr).toList = w3 at *
  have W0 : Hid (Set24 (w3.alloc (.cells #[.bool false, .bool false, .bool false, .bool false, .bool false, .bool false, .bool false, .bool false, .bool false, .bool false, .bool false, .bool false, .bool false, .bool false, .bool false, .bool false, .bool false, .bool false, .bool false, .bool false, .bool false, .bool false, .bool false, .bool false] 89)) w3.heap.size (fun i => decide (i < 0) && whoB P D (R.getD K []) i)) := Lib.hid (by
    have := Set24.new w3
    unfold Set24 at *
    rw [this, set24_congr (fun i _ => ?_)]
    simp)
  have bB := (Below.refl w3.heap.size w3).alloc (Nat.le_refl _) (.cells #[.bool false, .bool false, .bool false, .bool false, .bool false, .bool false, .bool false, .bool false, .bool false, .bool false, .bool false, .bool false, .bool false, .bool false, .bool false, .bool false, .bool false, .bool false, .bool false, .bool false, .bool false, .bool false, .bool false, .bool false] 89)
  have S3 := Lib.hid (S2.out.on bB)
  have K5 := Lib.hid (K4.out.on bB)
  have C5 := Lib.hid (below_trans' C4.out bB)
  obtain ⟨p0, p1, p2⟩ := K5.out.cells
  have C6 := Lib.hid C4.out
  clear bB S2 C4 K4 T2
  go_wp2
  clear p0 p1 p2
  go_loopw [29] (fun i wr => ∃ j : Nat, j ≤ k ∧ i = .int .i64 j ∧ Hid (Set24 wr w3.heap.size (fun i => decide (i < j) && whoB P D (R.getD K []) i)) ∧ Hid (Set24 wr w2.heap.size rr) ∧ Hid (Cell3 wr w1.heap.size 84 (.slice A k c) (.slice B k d) (.slice V q e0)) ∧ Hid (Below w.heap.size w wr)) (fun i _ => k - (intOf i).toNat)
  case atStart => exact ⟨0, Nat.zero_le _, rfl, W0, S3, K5, C5⟩
  case round =>
    obtain ⟨j, hj, rfl, HW, HS, HK, HB⟩ := hrel
    clear W0 S3 K5 C5
    obtain ⟨p0, p1, p2⟩ := HK.out.cells
    by_cases hlt : j < k
    · have i0 : (0 : Int) ≤ (j : Int) := by omega
      have i1 : (j : Int) < 24 := by omega
      have i2 : (j : Int) < (k : Int) := by omega
      have HAM : Hid (amD D (inN k (und P j)) k = amD D (und P j) k) := Lib.hid (amD_congr (fun i hi => by unfold inN; simp [hi]))
      go_wp2
      go_region_held3 (fun w' => w'.cell? ⟨w1.heap.size, 0, none⟩ = some (.slice A k c) ∧ w'.cell? ⟨w1.heap.size, 1, none⟩ = some (.slice B k d))
        (first
          | go_keep
          | (with_reducible exact E1.out)
          | (with_reducible exact E2.out))
        (first
          | (go_at_call 84; refine (nodesUnder_any A B k c k d j P D _ (H.out.on (below_drewN HB.out 1)).b HT.out HL.out n24 hlt).mono ?_; rintro e wa ⟨rfl, ba⟩; have bb := below_trans' (below_drewN (Below.refl _ _) 1) ba; have Ba := Lib.hid (below_trans' HB.out bb); have Sa := Lib.hid (HS.out.on bb); have Wa := Lib.hid (HW.out.on bb); have Ka := Lib.hid (HK.out.on bb); have E1 : Hid (wa.cell? ⟨w1.heap.size, 0, none⟩ = some (.slice A k c) ∧ wa.cell? ⟨w1.heap.size, 1, none⟩ = some (.slice B k d)) := Lib.hid ⟨Ka.out.cells.1, Ka.out.cells.2.1⟩)
          | (go_at_call 83; refine (doorsAmong_any A B k c k d P D (inN k (und P j)) _ (H.out.on Ba.out).b n24 (by omega)).mono ?_; rw [HAM.out]; rintro e wb ⟨A4, n4, c4, rfl, ho, h1, h2, h3, b4⟩; have HO := Lib.hid ho.ints; have HOL := Lib.hid ho.len; have Bb := Lib.hid (below_trans' Ba.out b4); have Sb := Lib.hid (Sa.out.on b4); have Wb := Lib.hid (Wa.out.on b4); have Kb := Lib.hid (Ka.out.on b4); have E2 : Hid (wb.cell? ⟨w1.heap.size, 0, none⟩ = some (.slice A k c) ∧ wb.cell? ⟨w1.heap.size, 1, none⟩ = some (.slice B k d)) := Lib.hid ⟨Kb.out.cells.1, Kb.out.cells.2.1⟩))
      clear b4 ba bb E1 E2 Ka Sa Wa Ba ho p0 p1 p2 HK HS HW HB
      have HJ : Hid ((fun i => if i = j then whoB P D (R.getD K []) j else decide (i < j) && whoB P D (R.getD K []) i) = fun i => decide (i < j + 1) && whoB P D (R.getD K []) i) := Lib.hid (by
        funext i
        by_cases e : i = j
        · subst e; simp
        · by_cases e2 : i < j
          · have : i < j + 1 := by omega
            simp [e, e2, this]
          · have : ¬ i < j + 1 := by omega
            simp [e, e2, this])
      have hcs := Wb.out.cell (i := j) (by omega)
      have hfz := Wb.out.thawed j
      by_cases hn0 : n4 = 0
      · subst hn0
        have HN : Hid (whoB P D (R.getD K []) j = false) := Lib.hid (by
          unfold whoB
          rw [HL.out, List.eq_nil_of_length_eq_zero HOL.out]; rfl)
        have W7 : Hid (Set24 (wb.setCell ⟨w3.heap.size, j, none⟩ (.bool false)) w3.heap.size (fun i => decide (i < j + 1) && whoB P D (R.getD K []) i)) := Lib.hid (by rw [← HJ.out, HN.out]; exact Wb.out.putB j false)
        have G7 : Hid (wb.grownBy (wb.setCell ⟨w3.heap.size, j, none⟩ (.bool false)) (some w3.heap.size)) := Lib.hid (grown_set (p := ⟨w3.heap.size, j, none⟩) (World.grownBy.refl wb _) rfl _)
        have S7 := Lib.hid (Sb.out.on' G7.out (by omega))
        have K7 := Lib.hid (Kb.out.grown G7.out (fun e => by injection e with e; omega))
        have B7 := Lib.hid (below_grown Bb.out G7.out (fun g e => by injection e with e; have := C6.out.size; omega))
        clear Wb Sb Kb Bb
        go_wp2
        go_roundw
        case rel => exact ⟨j + 1, by omega, by go_num, W7, S7, K7, B7⟩
        case measure => simp [intOf]; omega
      · have hn1 : 0 < n4 := by omega
        have hn3 : decide ((0 : Int) < (n4 : Int)) = true := by simp; omega
        have hxr : ∀ x ∈ amD D (und P j) k, 0 ≤ x ∧ x < 24 := fun x hx => by
          obtain ⟨i, hi, rfl, _⟩ := amD_mem.1 hx
          omega
        have HXR := Lib.hid hxr
        have HN : Hid (whoB P D (R.getD K []) j = (amD D (und P j) k).all fun x => rr x.toNat) := Lib.hid (by
          unfold whoB
          rw [HL.out]
          have e : (amD D (und P j) k).isEmpty = false := by
            rcases hl : amD D (und P j) k with _ | _
            · have := HOL.out; rw [hl] at this; simp at this; omega
            · rfl
          rw [e, Bool.not_false, Bool.true_and, Bool.eq_iff_iff, List.all_eq_true, List.all_eq_true]
          have each : ∀ x ∈ amD D (und P j) k, rr x.toNat = anyU P (R.getD K []) x.toNat := fun x hx => by
            obtain ⟨i, hi, rfl, _⟩ := amD_mem.1 hx
            rw [HRE.out]; unfold inN; simp [hi]
          exact ⟨fun h x hx => by rw [each x hx]; exact h x hx, fun h x hx => by rw [← each x hx]; exact h x hx⟩)
        have R1 := Lib.hid Sb.out.range
        clear hxr
        go_wp2_with (first
          | (refine wpList_load_when rfl 89 _ rfl w2.heap.size 0 rfl _ _ R1.out HU.out rfl HZ.out ?_)
          | (go_at_call 100; refine (hasAll_any rr _ _ _ _ _ HO.out (by omega) HXR.out).mono ?_; rintro e wc ⟨rfl, bc⟩; have Wc := Lib.hid (Wb.out.on bc); have Sc := Lib.hid (Sb.out.on bc); have Kc := Lib.hid (Kb.out.on bc); have Bc := Lib.hid (below_trans' Bb.out bc); have hcc := Wc.out.cell (i := j) (by omega); have hfc := Wc.out.thawed j))
        clear hcs hfz
        have W7 : Hid (Set24 (wc.setCell ⟨w3.heap.size, j, none⟩ (.bool ((amD D (und P j) k).all fun x => rr x.toNat))) w3.heap.size (fun i => decide (i < j + 1) && whoB P D (R.getD K []) i)) := Lib.hid (by rw [← HJ.out, HN.out]; exact Wc.out.putB j _)
        have G7 : Hid (wc.grownBy (wc.setCell ⟨w3.heap.size, j, none⟩ (.bool ((amD D (und P j) k).all fun x => rr x.toNat))) (some w3.heap.size)) := Lib.hid (grown_set (p := ⟨w3.heap.size, j, none⟩) (World.grownBy.refl wc _) rfl _)
        have S7 := Lib.hid (Sc.out.on' G7.out (by omega))
        have K7 := Lib.hid (Kc.out.grown G7.out (fun e => by injection e with e; omega))
        have B7 := Lib.hid (below_grown Bc.out G7.out (fun g e => by injection e with e; have := C6.out.size; omega))
        go_roundw
        case rel => exact ⟨j + 1, by omega, by go_num, W7, S7, K7, B7⟩
        case measure => simp [intOf]; omega
    · obtain rfl : j = k := by omega
      have HWE : Hid (Set24 wr w3.heap.size (inN j (whoB P D (R.getD K [])))) := HW
      have HAM : Hid (topTo P (inN j (whoB P D (R.getD K []))) j = topTo P (whoB P D (R.getD K [])) j) := Lib.hid (topTo_congr HT.out (fun i hi => by unfold inN; rw [HL.out] at hi; simp [hi]) (Nat.le_of_eq HL.out.symm))
      have R1 := Lib.hid HWE.out.range
      clear HW
      go_wp2_with (refine wpList_load_mid rfl 89 _ rfl w3.heap.size 0 rfl _ _ R1.out HU.out rfl HZ.out ?_)
      refine (topsOf_any A B V j c j d q e0 P D (inN j (whoB P D (R.getD K []))) _ (H.out.on HB.out).b HT.out (by omega) n24).mono ?_
      rw [HAM.out]
      rintro e w9 ⟨A9, n9, c9, rfl, ho, h1, h2, h3, b9⟩
      have HO := Lib.hid (ho.more HB.out.size (Nat.le_refl _) (Nat.le_refl _))
      have C9 := Lib.hid (below_trans' HB.out b9)
      clear ho b9 p0 p1 p2 R1
      go_wp2
      go_ret2
      exact ⟨_, _, _, rfl, HO.out, h1, h2, h3, C9.out⟩

end Go.Proofs.Ytnadcjclihflcaa
