/- The model's UnusedDoors. -/
import Derived.Test.YtnadcjclihflcaaPlU
namespace Go.Proofs.Ytnadcjclihflcaa
open Go Go.RowKit

theorem any_no {P : List Int} {R : List (List Int)} {t G : Nat} {ys : List Int} (hy : R[t]? = some ys) : ((R.take (t + 1)).any fun xs => anyU P xs G) = (((R.take t).any fun xs => anyU P xs G) || anyU P ys G) := by
  obtain ⟨hl, e⟩ := List.getElem?_eq_some_iff.1 hy
  rw [List.take_succ_eq_append_getElem hl, List.any_append, e]; simp

set_option maxRecDepth 100000 in
set_option maxHeartbeats 2000000 in
theorem specUnusedDoors_any (A B V : Option Addr) (n c k d q e0 : Nat) (P : List Int) (D : List Bool) (R : List (List Int)) (w : World) (h : Pl w A n B k V q P D R) (hn : n ≤ 1048576) (hk : k ≤ 1048576) (hq : q + sizeL R ≤ 1048576) :
    Calls Try.prog 47 #[.agg #[.slice A n c, .slice B k d, .slice V q e0]] w (GivesList w (pE P D R) (unL P D R)) := by
  have c0 := (Below.refl w.heap.size w).alloc (Nat.le_refl _) (.cells #[.slice A n c, .slice B k d, .slice V q e0] 30)
  have h0 := Lib.hid (h.on c0)
  have C0 := Lib.hid c0
  have K0 := Lib.hid (Cell3.new w 30 (.slice A n c) (.slice B k d) (.slice V q e0))
  have H := Lib.hid h
  have HP := Lib.hid h.b.ps.len
  have HR := Lib.hid h.r.len
  have HQ := Lib.hid hq
  obtain ⟨p0, p1, p2⟩ := K0.out.cells
  clear c0 h
  obtain ⟨ii, hi0, hz0, hz1, hz2⟩ := info_parts Try.info2'
  have HF := Lib.hid (And.intro hi0 (And.intro hz0 (And.intro hz1 hz2)))
  clear hi0 hz0 hz1 hz2
  obtain ⟨z, hz⟩ : ∃ z, pE P D R = z := ⟨_, rfl⟩
  have HZ := Lib.hid hz
  by_cases hz0 : z = 0
  rotate_left
  · have HD := Lib.hid (un_bad hz hz0)
    have HPB := Lib.hid (pE_not hz hz0)
    rw [hz, HD.out]
    clear hz hz0
    go_enter Try.func47, Try.ntmps47
    go_wp2_with fail
    refine (specIsPlan_any A B V n c k d q e0 P D R _ h0.out hn hk HQ.out).mono ?_
    rw [HPB.out.1]
    rintro e w1 ⟨rfl, b1⟩
    have C1 := Lib.hid (below_trans' C0.out b1)
    clear b1 p0 p1 p2
    go_wp2
    go_ret2
    exact ⟨none, 0, 0, by rw [HPB.out.2]; rfl, Own.nil _ (Nat.le_refl _), by omega, by omega, by omega, C1.out⟩
  subst hz0
  have hp := pE_zero hz
  obtain ⟨hT, n2, n24, hkn, q1', q10, hrig, hr⟩ := plan_facts H.out hp
  have HT := Lib.hid hT
  have HKN := Lib.hid hkn
  have HRR := Lib.hid hr
  have HRG := Lib.hid hrig
  have HPL := Lib.hid hp
  have HPE := Lib.hid hz
  clear hz hp hT hkn hr hrig
  have HD : Hid (unL P D R = amD D (noneB P R) n) := Lib.hid (by unfold unL; rw [HPL.out, HP.out]; rfl)
  go_enter Try.func47, Try.ntmps47
  go_wp2_with fail
  refine (specIsPlan_any A B V n c k d q e0 P D R _ h0.out hn hk HQ.out).mono ?_
  rw [HPL.out]
  rintro e w1 ⟨rfl, b1⟩
  have C1 := Lib.hid (below_trans' C0.out b1)
  have K1 := Lib.hid (K0.out.on b1)
  clear b1 p0 p1 p2 K0 h0 C0
  obtain ⟨p0, p1, p2⟩ := K1.out.cells
  go_wp2_with fail
  refine (l09Doors_any A B n c k d 0 P D _ (H.out.on C1.out).b HT.out HKN.out n24 (by omega)).mono ?_
  rintro e w2 ⟨A3, n3, c3, rfl, ho, h1, h2, h3, b2⟩
  have C2 := Lib.hid (below_trans' C1.out b2)
  have K2 := Lib.hid (K1.out.on b2)
  have D2 := Lib.hid ho.ints
  have L2 := Lib.hid ho.len
  have HLN : Hid (∀ x ∈ doorsTo P D 0 n, 0 ≤ x ∧ x < n) := Lib.hid (fun x hx => by
    obtain ⟨i, hi, rfl, _⟩ := doorsTo_mem.1 hx
    omega)
  have HFL : Hid ((doorsTo P D 0 n).filter (fun v => noneB P R v.toNat) = amD D (noneB P R) n) := Lib.hid (by
    have := doors_filter HT.out D (noneB P R)
    rw [HP.out] at this
    rw [doorsTo_am]; exact this)
  have hn3 : n3 ≤ 24 := by rw [← L2.out]; exact Nat.le_trans (doorsTo_len _ _ _ _) n24
  have R2 := Lib.hid (rowNil (w := w2) (t := 2) (s := 1) (base := w2.heap.size) (Nat.le_refl _))
  have F2 := Lib.hid ((Below.refl w2.heap.size w2).alloc (Nat.le_refl _) (.cells #[] 2))
  clear b2 ho p0 p1 p2 K1 C1
  generalize doorsTo P D 0 n = L at *
  go_wp2
  go_loopw [5, 6] (fun y x wr => ∃ (j s : Nat) (pv : Value), j ≤ n3 ∧ x = .int .i64 j ∧ y = pv ∧ s ≤ j ∧ Hid (((L.take j).filter (fun v => noneB P R v.toNat)).length = s) ∧ Hid (wr.ownsRow w2.heap.size 2 1 pv s (intsV ((L.take j).filter (fun v => noneB P R v.toNat)))) ∧ Hid (Below w2.heap.size w2 wr)) (fun _ x _ => n3 - (intOf x).toNat)
  case atStart => exact ⟨0, 0, _, Nat.zero_le _, rfl, rfl, Nat.le_refl _, Lib.hid rfl, R2, F2⟩
  case round =>
    obtain ⟨j, s, pv, hj, rfl, rfl, hs, HQ2, HR2, HF2⟩ := hrel
    clear R2 F2
    obtain ⟨A1, c1, rfl, _, _, _⟩ := rowInts HR2.out HQ2.out
    by_cases hlt : j < n3
    · obtain ⟨bd, v, rfl, hdb, hv, _⟩ := (D2.out.on HF2.out).at_ hlt
      have HV := Lib.hid hv
      have HVR : Hid (0 ≤ v ∧ v < n) := Lib.hid (HLN.out v (List.mem_of_getElem? hv))
      obtain ⟨G, rfl⟩ := Int.eq_ofNat_of_zero_le HVR.out.1
      have hG : G < n := by have := HVR.out.2; omega
      have i0 : (0 : Int) ≤ (j : Int) := by omega
      have i1 : (j : Int) < (n3 : Int) := by omega
      clear hv hdb
      have B0 := Lib.hid (Below.refl wr.heap.size wr)
      go_wp2
      go_loopw [7, 8] (fun b x wi => ∃ (t : Nat) (bv : Bool), t ≤ q ∧ x = .int .i64 t ∧ b = .bool bv ∧ Hid (((R.take t).any fun xs => anyU P xs G) = bv) ∧ Hid (Below wr.heap.size wr wi)) (fun _ x _ => q - (intOf x).toNat)
      case atStart => exact ⟨0, false, Nat.zero_le _, rfl, rfl, Lib.hid rfl, B0⟩
      case round =>
        obtain ⟨t, bv, ht, rfl, rfl, HAN, HBI⟩ := hrel
        clear B0
        have FI := Lib.hid (below_trans' HF2.out HBI.out)
        have CI := Lib.hid (below_trans' C2.out FI.out)
        have KI := Lib.hid (K2.out.on FI.out)
        obtain ⟨p0, p1, p2⟩ := KI.out.cells
        obtain ⟨_, v', e, hdb, hv', hdc⟩ := (D2.out.on FI.out).at_ hlt
        injection e with e
        subst e
        obtain rfl : (G : Int) = v' := by have := HV.out; rw [this] at hv'; injection hv'
        have HDB := Lib.hid hdb
        have HDC := Lib.hid hdc
        clear hdb hv'
        by_cases hlt2 : t < q
        · obtain ⟨ad, ys, A2, q2', c2, rfl, hab, hy, hc, hi, _, _⟩ := (H.out.on CI.out).r.at_ hlt2
          have HG : Hid (R.getD t [] = ys) := Lib.hid (getD_list hy)
          have HYJ : Hid (R[t]? = some ys) := Lib.hid hy
          have HI := Lib.hid hi
          have HCC := Lib.hid hc
          have HAB := Lib.hid hab
          have HY0 : Hid (∀ x ∈ ys, 0 ≤ x) := Lib.hid (fun x hx => (HRR.out t hlt2 x (by rw [getD_list hy]; exact hx)).1)
          have hq2 : q2' ≤ 1048576 := by have := fits_at HQ.out hy; have := hi.len; omega
          have i6 : (0 : Int) ≤ (t : Int) := by omega
          have i7 : (t : Int) < (q : Int) := by omega
          clear hy hi hab
          rcases bv with _ | _
          · rcases hu : anyU P ys G with _ | _
            all_goals
              have HU := Lib.hid hu
              have HN := Lib.hid (any_no (P := P) (G := G) HYJ.out)
              rw [HAN.out, hu] at HN
              clear hu
              go_wp2
              go_region_held3 (fun w' => w'.cell? ⟨w.heap.size, 0, none⟩ = some (.slice A n c) ∧ w'.cell? ⟨w.heap.size, 1, none⟩ = some (.slice B k d) ∧ w'.cell? ⟨w.heap.size, 2, none⟩ = some (.slice (some ad) q e0) ∧ w'.cell? (ad.add t) = some (.slice A2 q2' c2) ∧ w'.cell? (bd.add j) = some (.int .i64 ((G : Nat) : Int)))
                (first
                  | go_keep
                  | (with_reducible exact E1.out))
                (first | (go_at_call 92; refine (l10May_any A B A2 n c k d q2' c2 G P D ys _ (H.out.on (below_drewN CI.out 1)).b HT.out (ints_drewN HI.out 1) hn hq2 hG HY0.out).mono ?_; rw [HU.out]; rintro e w4 ⟨rfl, b4⟩; have bb := below_trans' (below_drewN (Below.refl _ _) 1) b4; have B3 := Lib.hid (below_trans' HBI.out bb); have E1 := Lib.hid (And.intro (KI.out.on bb).cells.1 (And.intro (KI.out.on bb).cells.2.1 (And.intro (KI.out.on bb).cells.2.2 (And.intro ((bb.cell (by rw [block_of_add]; exact HAB.out)).trans HCC.out) ((bb.cell (by rw [block_of_add]; exact HDB.out)).trans HDC.out)))))))
              all_goals
                clear p0 p1 p2 hc hdc
                go_wp2
                go_roundw
                case rel => exact ⟨t + 1, _, by omega, by go_num, rfl, HN, B3⟩
                case measure => simp [intOf]; omega
          · have HN := Lib.hid (any_no (P := P) (G := G) HYJ.out)
            rw [HAN.out, Bool.true_or] at HN
            go_wp2
            go_quiet (fail)
            clear p0 p1 p2 hc hdc
            go_wp2
            go_roundw
            case rel => exact ⟨t + 1, true, by omega, by go_num, rfl, HN, Lib.hid (below_drewN HBI.out _)⟩
            case measure => simp [intOf]; omega
        · obtain rfl : t = q := by omega
          have HNB : Hid (noneB P R G = !bv) := Lib.hid (by unfold noneB; rw [← HAN.out, List.take_of_length_le (by rw [HR.out]; exact Nat.le_refl _)])
          have R3 := Lib.hid (rowBelow HR2.out HBI.out)
          rcases bv with _ | _
          · have HN : Hid ((L.take (j + 1)).filter (fun v => noneB P R v.toNat) = (L.take j).filter (fun v => noneB P R v.toNat) ++ [(G : Int)]) := Lib.hid (filter_yes HV.out (by rw [Int.toNat_natCast, HNB.out]; rfl))
            have hszw := FI.out.size
            have HZV := Lib.hid (rowBase R3.out)
            go_wp2_with (at_builtin; refine wpList_append_lies _ rfl _ _ 24 rfl w2.heap.size 2 ii _ 1 8 Try.underlying24 HF.out.1 HF.out.2.1 HF.out.2.2.1 HF.out.2.2.2 rfl (by omega) _ s _ rfl (rowBelow R3.out ((Below.refl _ _).alloc (Nat.le_refl _) _)) ⟨wr.heap.size, 0, none⟩ 1 1 [.int .i64 (G : Int)] rfl rfl (World.news_of_block (cs := #[.int .i64 (G : Int)]) (t := 2) (fr := (0, 0)) (heap_alloc_new wr _)) (by simp [Value.oneCell']) (by omega) (by unfold maxLen; omega) (by omega) (by simp; omega) (wr.heap.size + 1) (by simp) ?_; intro gg cap w5 hown1 hgrow hat hlt3)
            have R5 : Hid (w5.ownsRow w2.heap.size 2 1 (.slice (some ⟨gg, 0, none⟩) (s + 1) cap) (s + 1) (intsV ((L.take (j + 1)).filter (fun v => noneB P R v.toNat)))) := Lib.hid (by rw [HN.out, ← intsV_snoc]; exact hown1)
            have Q5 : Hid (((L.take (j + 1)).filter (fun v => noneB P R v.toNat)).length = s + 1) := Lib.hid (by rw [HN.out, List.length_append, HQ2.out]; rfl)
            have F5 := Lib.hid ((FI.out.alloc FI.out.size (.cells #[.int .i64 (G : Int)] 2)).grown hgrow (by simp; omega) (fun q e => by have := HZV.out q e; omega))
            clear hown1 hgrow hat hlt3
            go_wp2
            go_roundw
            case rel => exact ⟨j + 1, s + 1, _, by omega, by go_num, rfl, by omega, Q5, R5, F5⟩
            case measure => simp [intOf]; omega
          · have HN : Hid ((L.take (j + 1)).filter (fun v => noneB P R v.toNat) = (L.take j).filter (fun v => noneB P R v.toNat)) := Lib.hid (filter_no HV.out (by rw [Int.toNat_natCast, HNB.out]; rfl))
            go_wp2
            go_roundw
            case rel => exact ⟨j + 1, s, _, by omega, by go_num, rfl, by omega, Lib.hid (by rw [HN.out]; exact HQ2.out), Lib.hid (by rw [HN.out]; exact R3.out), FI⟩
            case measure => simp [intOf]; omega
    · obtain rfl : j = n3 := by omega
      have CC := Lib.hid (below_trans' C2.out HF2.out)
      obtain ⟨A4, c4, e, ho, h1', h2'⟩ := rowInts HR2.out HQ2.out
      injection e with e1' e2' e3'
      subst e1'; subst e3'
      have HO := Lib.hid (ho.more C2.out.size (Nat.le_refl _) (Nat.le_refl _))
      have HEQ : Hid ((L.take j).filter (fun v => noneB P R v.toNat) = unL P D R) := Lib.hid (by rw [List.take_of_length_le (by have := L2.out; omega), HD.out]; exact HFL.out)
      have q9 : s ≤ 1048576 := by omega
      clear ho
      go_wp2
      go_ret2
      exact ⟨_, s, _, by rw [HPE.out]; rfl, by rw [← HEQ.out]; exact HO.out, q9, h1', h2', CC.out⟩

end Go.Proofs.Ytnadcjclihflcaa
