/- AccessOf of the program. -/
import Derived.Test.YtnadcjclihflcaaPlF
namespace Go.Proofs.Ytnadcjclihflcaa
open Go Go.RowKit

set_option maxRecDepth 100000 in
set_option maxHeartbeats 2000000 in
theorem accessOf_any (A B V : Option Addr) (n c k d q e0 : Nat) (P : List Int) (D : List Bool) (R : List (List Int)) (w : World) (h : Pl w A n B k V q P D R) (hn : n ≤ 1048576) (hk : k ≤ 1048576) (hq : q + sizeL R ≤ 1048576) :
    Calls Try.prog 21 #[.agg #[.slice A n c, .slice B k d, .slice V q e0]] w (GivesRagE w (pE P D R) (acL P D R)) := by
  have c1 := (Below.refl w.heap.size w).alloc (Nat.le_refl _) (.cells #[.slice A n c, .slice B k d, .slice V q e0] 30)
  have h0 := Lib.hid (h.on c1)
  obtain ⟨p0, p1, p2⟩ := (Cell3.new w 30 (.slice A n c) (.slice B k d) (.slice V q e0)).cells
  have C0 := Lib.hid c1
  have H := Lib.hid h
  clear c1 h
  obtain ⟨z, hz⟩ : ∃ z, pE P D R = z := ⟨_, rfl⟩
  have HZ := Lib.hid hz
  by_cases hz0 : z = 0
  rotate_left
  · have HD : Hid (acL P D R = []) := Lib.hid (ac_bad hz hz0)
    rw [hz, HD.out]
    have ht : (z != 0) = true := by simpa using hz0
    go_enter Try.func21, Try.ntmps21
    go_wp2_with fail
    refine (sheetOf_any A B V _ n c k d q e0 0 0 P D R [] _ h0.out ⟨rfl, fun h => absurd h (by omega)⟩ hn hk hq (by omega)).mono ?_
    rw [shE_none, HZ.out]
    rintro e w1 ⟨⟨s1, s2, s3, rfl, hs, hs'⟩, b1⟩
    obtain ⟨rfl, rfl, rfl⟩ := hs' hz0
    have C2 := Lib.hid ((below_trans' C0.out b1).alloc (below_trans' C0.out b1).size (.cells #[.slice none 0 0, .slice none 0 0, .slice none 0 0] 84))
    clear b1 p0 p1 p2 hz hs hs' hz0
    go_wp2
    go_ret2
    exact ⟨none, 0, 0, [], rfl, Rag.nil _ C2.out.size, by omega, by omega, C2.out⟩
  have hp := pE_zero (by rw [hz, hz0])
  subst hz0
  obtain ⟨hT, n2, n24, hkn, q1, q10, hrig, hr⟩ := plan_facts H.out hp
  subst hkn
  have HT := Lib.hid hT
  have HL := Lib.hid H.out.b.ps.len
  have HG := Lib.hid hrig
  have HR := Lib.hid hr
  have HQ := Lib.hid H.out.r.len
  have HP := Lib.hid hp
  have HQS := Lib.hid hq
  have HPE := Lib.hid hz
  clear hT hr hrig hp hz
  go_enter Try.func21, Try.ntmps21
  go_wp2_with fail
  refine (sheetOf_any A B V _ k c k d q e0 0 0 P D R [] _ h0.out ⟨rfl, fun h => absurd h (by omega)⟩ hn hk hq (by omega)).mono ?_
  rw [shE_none, HZ.out]
  rintro e w1 ⟨⟨s1, s2, s3, rfl, hs, hs'⟩, b1⟩
  obtain ⟨rfl, rfl, rfl⟩ := hs rfl
  have C1 := Lib.hid (below_trans' C0.out b1)
  have C2 := Lib.hid (C1.out.alloc C1.out.size (.cells #[.slice A k c, .slice B k d, .slice V q e0] 84))
  have K2 := Lib.hid (Cell3.new w1 84 (.slice A k c) (.slice B k d) (.slice V q e0))
  clear hs hs' b1 p0 p1 p2 C0 h0
  obtain ⟨p0, p1, p2⟩ := K2.out.cells
  have HD : Hid (acL P D R = R.map (acRow P D)) := Lib.hid (by unfold acL; rw [HP.out]; rfl)
  have HAM : Hid (amD D (inN k (und P 0)) k = amD D (und P 0) k) := Lib.hid (amD_congr (fun i hi => by unfold inN; simp [hi]))
  have HNE : Hid (0 < (amD D (und P 0) k).length) := Lib.hid (by have := doors_some (planB_true HP.out).1; rwa [HL.out] at this)
  obtain ⟨jj, hj0, hy0, hy1, hy2⟩ := info_parts Try.info24'
  have HG2 := Lib.hid (And.intro hj0 (And.intro hy0 (And.intro hy1 hy2)))
  clear hj0 hy0 hy1 hy2
  go_wp2
  go_region_held3 (fun w' => w'.cell? ⟨w1.heap.size, 0, none⟩ = some (.slice A k c) ∧ w'.cell? ⟨w1.heap.size, 1, none⟩ = some (.slice B k d))
    (first
      | go_keep
      | (with_reducible exact E1.out)
      | (with_reducible exact E2.out))
    (first
      | (go_at_call 84; refine (nodesUnder_any A B k c k d 0 P D _ (H.out.on (below_drewN C2.out 1)).b HT.out HL.out n24 (by omega)).mono ?_; rintro e wa ⟨rfl, ba⟩; have bb := below_trans' (below_drewN (Below.refl _ _) 1) ba; have Ba := Lib.hid (below_trans' C2.out bb); have Ka := Lib.hid (K2.out.on bb); have E1 : Hid (wa.cell? ⟨w1.heap.size, 0, none⟩ = some (.slice A k c) ∧ wa.cell? ⟨w1.heap.size, 1, none⟩ = some (.slice B k d)) := Lib.hid ⟨Ka.out.cells.1, Ka.out.cells.2.1⟩)
      | (go_at_call 83; refine (doorsAmong_any A B k c k d P D (inN k (und P 0)) _ (H.out.on Ba.out).b n24 (by omega)).mono ?_; rw [HAM.out]; rintro e wb ⟨A4, n4, c4, rfl, ho, h1, h2, h3, b4⟩; have HO := Lib.hid ho.ints; have HOL := Lib.hid ho.len; have Bb := Lib.hid (below_trans' Ba.out b4); have Kb := Lib.hid (Ka.out.on b4); have E2 : Hid (wb.cell? ⟨w1.heap.size, 0, none⟩ = some (.slice A k c) ∧ wb.cell? ⟨w1.heap.size, 1, none⟩ = some (.slice B k d)) := Lib.hid ⟨Kb.out.cells.1, Kb.out.cells.2.1⟩))
  have hn4 : n4 ≤ 24 := by rw [← HOL.out]; exact Nat.le_trans (amD_len _ _ _) n24
  have hn0 : 0 < n4 := by rw [← HOL.out]; exact HNE.out
  have HLR : Hid (∀ x ∈ amD D (und P 0) k, 0 ≤ x ∧ x < 24) := Lib.hid (fun x hx => by
    obtain ⟨i, hi, rfl, _⟩ := amD_mem.1 hx
    omega)
  have HLK : Hid (∀ x ∈ amD D (und P 0) k, x < k) := Lib.hid (fun x hx => by
    obtain ⟨i, hi, rfl, _⟩ := amD_mem.1 hx
    omega)
  have HRW : Hid (∀ ys, acRow P D ys = (amD D (und P 0) k).map fun d => if anyU P ys d.toNat then 1 else 0) := Lib.hid (fun ys => by unfold acRow; rw [HL.out])
  have HDB : Hid (0 < n4 → ∀ ad, A4 = some ad → ad.block < wb.heap.size) := Lib.hid (fun h0 ad e => by
    obtain ⟨bd, e2, h9, _⟩ := HO.out.2 h0
    rw [e] at e2; injection e2 with e2; subst e2; exact h9)
  clear b4 ba bb E1 E2 Ka Ba ho p0 p1 p2 K2 C2 C1
  generalize amD D (und P 0) k = L at *
  have bB := (Below.refl wb.heap.size wb).alloc (Nat.le_refl _) (.cells #[] 24)
  have PP := Lib.hid (Pile.none_ (p := n4) (rowNil (w := wb) (t := 24) (s := 1) (base := wb.heap.size) (Nat.le_refl _)))
  have D4 := Lib.hid (HO.out.on bB)
  have K4 := Lib.hid (Kb.out.on bB)
  have C4 := Lib.hid (below_trans' Bb.out bB)
  have hbw : w.heap.size ≤ wb.heap.size := Bb.out.size
  have hl1 : w1.heap.size < wb.heap.size := Kb.out.lt
  obtain ⟨p0, p1, p2⟩ := K4.out.cells
  clear bB HO Kb Bb
  have HZ := Lib.hid Try.info24
  have HU := Lib.hid Try.und24
  have hb1 : wb.heap.size + 1 ≤ (wb.alloc (.cells #[] 24)).heap.size := by simp
  go_wp2
  clear p0 p1 p2
  go_loopw [7, 31] (fun y x wr => ∃ (j : Nat) (Vr : Option Addr) (cr : Nat) (gs : List (Addr × Nat)), j ≤ q ∧ x = .int .i64 j ∧ y = .slice Vr j cr ∧ Hid (Pile wr wb.heap.size (.slice Vr j cr) j n4 gs ((R.take j).map (acRow P D))) ∧ Hid (Ints wr wr.heap.size A4 n4 L) ∧ Hid (Cell3 wr w1.heap.size 84 (.slice A k c) (.slice B k d) (.slice V q e0)) ∧ Hid (Below w.heap.size w wr) ∧ wb.heap.size + 1 ≤ wr.heap.size) (fun _ x _ => q - (intOf x).toNat)
  case atStart => exact ⟨0, _, _, [], Nat.zero_le _, rfl, rfl, PP, D4, K4, C4, hb1⟩
  case round =>
    obtain ⟨j, Vr, cr, gs, hj, rfl, rfl, HPL, HDO, HK, HB, hsz⟩ := hrel
    clear PP D4 K4 C4 hb1
    obtain ⟨p0, p1, p2⟩ := HK.out.cells
    by_cases hlt : j < q
    · have i4 : (0 : Int) ≤ (j : Int) := by omega
      have i5 : (j : Int) < (q : Int) := by omega
      obtain ⟨ys, hys⟩ : ∃ ys, ys = R.getD j [] := ⟨_, rfl⟩
      have HY : Hid (R[j]? = some ys) := Lib.hid (by
        have hl : j < R.length := by rw [HQ.out]; exact hlt
        rw [hys, List.getD_eq_getElem?_getD, List.getElem?_eq_getElem hl]; rfl)
      go_wp2_with fail
      refine (reach_any A B V k c k d q e0 j P D R _ (H.out.on HB.out) HT.out (by omega) n24 hlt HQS.out (HR.out j hlt)).mono ?_
      rw [← hys]
      clear hys
      rintro e w5 ⟨rfl, b5⟩
      obtain ⟨rr, hrr⟩ : ∃ rr, rr = inN k (anyU P ys) := ⟨_, rfl⟩
      rw [← hrr]
      have HRE := Lib.hid hrr
      have Z2 := Set24.new w5
      have T2 := Lib.hid Z2.there
      have S2 : Hid (Set24 ((w5.alloc (.cells #[.bool false, .bool false, .bool false, .bool false, .bool false, .bool false, .bool false, .bool false, .bool false, .bool false, .bool false, .bool false, .bool false, .bool false, .bool false, .bool false, .bool false, .bool false, .bool false, .bool false, .bool false, .bool false, .bool false, .bool false] 89)).setCells w5.heap.size 0 (set24 rr).toList) w5.heap.size rr) := Lib.hid Z2.stored
      have bA := below_setCells w5.heap.size (Nat.le_refl _) (set24 rr).toList 0 _ ((Below.refl w5.heap.size w5).alloc (Nat.le_refl _) (.cells #[.bool false, .bool false, .bool false, .bool false, .bool false, .bool false, .bool false, .bool false, .bool false, .bool false, .bool false, .bool false, .bool false, .bool false, .bool false, .bool false, .bool false, .bool false, .bool false, .bool false, .bool false, .bool false, .bool false, .bool false] 89))
      have bX := below_trans' b5 bA
      have P6 := Lib.hid (HPL.out.on bX)
      have D6 := Lib.hid (HDO.out.on bX)
      have K6 := Lib.hid (HK.out.on bX)
      have B6 := Lib.hid (below_trans' HB.out bX)
      have z6 := bX.size
      have HSO := Lib.hid (set24_one rr)
      have l5 := S2.out.lt
      clear b5 bA bX Z2 p0 p1 p2 HPL HDO HK HB hrr
      go_upto_region 10 with (refine wpList_store_mid rfl 89 _ _ rfl w5.heap.size 0 (set24 rr) rfl rfl T2.out HZ.out HSO.out ?_)
      generalize (w5.alloc (.cells #[.bool false, .bool false, .bool false, .bool false, .bool false, .bool false, .bool false, .bool false, .bool false, .bool false, .bool false, .bool false, .bool false, .bool false, .bool false, .bool false, .bool false, .bool false, .bool false, .bool false, .bool false, .bool false, .bool false, .bool false] 89)).setCells w5.heap.size 0 (set24 rr).toList = w6 at *
      have hmk := run_make_row' (P := Try.prog) 24 2 (.int .i64 0) 8 Try.underlying24 Try.info2' rfl .i64 .i64 n4 (by omega) (by omega)
      clear T2 HSO
      go_wp2
      clear hmk
      go_loopw [42] (fun i wr => ∃ t : Nat, t ≤ n4 ∧ i = .int .i64 t ∧ wr.rowIs w6.heap.size 2 n4 (acAt P ys L t) ∧ Below w6.heap.size w6 wr) (fun i _ => n4 - (intOf i).toNat)
      case atStart =>
        exact ⟨0, Nat.zero_le _, rfl, (World.rowIs_made w6 (.int .i64 0) n4 2).congr (fun i _ => by simp [acAt]), (Below.refl _ _).alloc (Nat.le_refl _) _⟩
      case round =>
        obtain ⟨t, ht, rfl, hrow, hb⟩ := hrel
        by_cases hlt2 : t < n4
        · obtain ⟨ad, v, rfl, hab, hv, hc⟩ := (D6.out.below hb).at_ hlt2
          have hv1 := HLR.out v (List.mem_of_getElem? hv)
          have hv2 := HLK.out v (List.mem_of_getElem? hv)
          obtain ⟨X, rfl⟩ := Int.eq_ofNat_of_zero_le hv1.1
          have hcx := (S2.out.on hb).cell (i := X) (by omega)
          have hin : rr X = anyU P ys X := by rw [HRE.out]; unfold inN; have : X < k := by omega
                                              simp [this]
          have hst := hrow.cell hlt2
          have hfz := hrow.frozen t
          have HV := Lib.hid hv
          have HRR := Lib.hid hrow
          have HBB := Lib.hid hb
          have i6 : (0 : Int) ≤ (t : Int) := by omega
          have i7 : (t : Int) < (n4 : Int) := by omega
          have i8 : (0 : Int) ≤ (X : Int) := by omega
          have i9 : (X : Int) < 24 := by omega
          rw [hin] at hcx
          clear hv hv1 hv2 hin hrow hb
          rcases hu : anyU P ys X with _ | _
          · have HC : Hid (∀ i, acAt P ys L t i = acAt P ys L (t + 1) i) := Lib.hid (acAt_no HV.out (by rw [Int.toNat_natCast]; exact hu))
            rw [hu] at hcx
            clear hu
            go_wp2
            go_roundw
            case rel => exact ⟨t + 1, by omega, by go_num, HRR.out.congr (fun i _ => HC.out i), HBB.out⟩
            case measure => simp [intOf]; omega
          · have HC : Hid (∀ i, (if i = t then Value.int .i64 1 else acAt P ys L t i) = acAt P ys L (t + 1) i) := Lib.hid (acAt_yes HV.out (by rw [Int.toNat_natCast]; exact hu))
            rw [hu] at hcx
            clear hu
            go_wp2
            go_roundw
            case rel => exact ⟨t + 1, by omega, by go_num, (HRR.out.set t (.int .i64 1)).congr (fun i _ => HC.out i), HBB.out.setCell (by simp) _⟩
            case measure => simp [intOf]; omega
        · obtain rfl : t = n4 := by omega
          have hl2 := hrow.lt
          have HRR := hrow.congr (g := fun i => .int .i64 ((acRow P D ys).getD i 0)) (fun i hi => by rw [HRW.out]; exact acAt_end HOL.out hi)
          have OR : Own wr w6.heap.size wr.heap.size (some ⟨w6.heap.size, 0, none⟩) t (acRow P D ys) := Own.of_row HRR (by rw [HRW.out, List.length_map, HOL.out]) (Nat.le_refl _)
          have HS := Lib.hid (OR.self hn0).1
          have P7 := Lib.hid (P6.out.on hb)
          have D7 := Lib.hid (D6.out.on hb)
          have K7 := Lib.hid (K6.out.on hb)
          have z7 := hb.size
          have B7 := Lib.hid (below_trans' B6.out hb)
          have HVA : Hid ((Value.slice Vr j cr).ownBlock ≠ some w6.heap.size) := Lib.hid (fun e => by
            have := Pile.own_lt P6.out _ e; omega)
          have HDA : Hid (∀ b ∈ gs, b.1.block ≠ w6.heap.size) := Lib.hid (fun b hb e => by
            have := Pile.each_lt P6.out b hb; omega)
          clear hrow hb HRR OR P6 D6 K6 B6
          go_wp2_with (at_builtin; refine wpList_append_lies _ rfl _ _ 28 rfl wb.heap.size 24 jj _ 1 24 Try.underlying28 HG2.out.1 HG2.out.2.1 HG2.out.2.2.1 HG2.out.2.2.2 rfl (by omega) _ j _ rfl (P7.out.row.alloc _) ⟨wr.heap.size, 0, none⟩ 1 1 [.slice (some ⟨w6.heap.size, 0, none⟩) t t] rfl rfl (World.news_of_block (cs := #[.slice (some ⟨w6.heap.size, 0, none⟩) t t]) (t := 24) (fr := (0, 0)) (heap_alloc_new wr _)) (slice_one _ _ _) (by omega) (by unfold maxLen; omega) (by omega) (by simp; omega) (wr.heap.size + 1) (by simp) ?_; intro gg cap w8 hown1 hgrow hat hlt3)
          have P8 : Hid (Pile w8 wb.heap.size (.slice (some ⟨gg, 0, none⟩) (j + 1) cap) (j + 1) t (gs ++ [(⟨w6.heap.size, 0, none⟩, t)]) ((R.take (j + 1)).map (acRow P D))) := Lib.hid (by
            obtain ⟨hl, e⟩ := List.getElem?_eq_some_iff.1 HY.out
            rw [List.take_succ_eq_append_getElem hl, List.map_append, e]
            exact P7.out.push HS.out (by show wb.heap.size ≤ w6.heap.size; omega) HVA.out (Nat.le_refl _) (by omega) HDA.out hown1 hgrow hat)
          have hb0 := (Below.refl wr.heap.size wr).alloc (Nat.le_refl _) (.cells #[.slice (some ⟨w6.heap.size, 0, none⟩) t t] 24)
          have D8 : Hid (Ints w8 w8.heap.size A4 t L) := Lib.hid ((D7.out.on hb0).pastB hgrow (fun g ad e2 hq e e3 => by
            have := rowBase P7.out.row _ e2
            have h9 := HDB.out hq ad e
            omega))
          have K8 := Lib.hid ((K7.out.on hb0).grown hgrow (fun e => by have := rowBase P7.out.row _ e.symm; omega))
          have B8 := Lib.hid ((B7.out.alloc B7.out.size (.cells #[.slice (some ⟨w6.heap.size, 0, none⟩) t t] 24)).grown hgrow (by simp; have := B7.out.size; omega) (fun q e => by have := rowBase P7.out.row q e; omega))
          have z8 := hgrow.size
          rw [World.size_alloc] at z8
          have hz8 : wb.heap.size + 1 ≤ w8.heap.size := by omega
          clear hown1 hgrow hat hlt3 hb0
          go_wp2
          go_roundw
          case rel => exact ⟨j + 1, _, _, _, by omega, by go_num, rfl, P8, D8, K8, B8, hz8⟩
          case measure => simp [intOf]; omega
    · obtain rfl : j = q := by omega
      have HPM : Hid ((R.take j).map (acRow P D) = acL P D R) := Lib.hid (by rw [HD.out, List.take_of_length_le (by rw [HQ.out]; exact Nat.le_refl _)])
      have hcaps := HPL.out.capsP
      clear p0 p1 p2
      go_wp2
      go_ret2
      have HRG := (HPL.out.rag (by omega)).more hbw
      rw [HPM.out] at HRG
      exact ⟨_, _, _, _, by rw [HPE.out]; rfl, HRG, hcaps.1, hcaps.2, HB.out⟩

end Go.Proofs.Ytnadcjclihflcaa
