/- The model's KeysFor. -/
import Derived.Test.YtnadcjclihflcaaPlU
namespace Go.Proofs.Ytnadcjclihflcaa
open Go Go.RowKit

set_option maxRecDepth 100000 in
set_option maxHeartbeats 2000000 in
theorem specKeysFor_any (A B V : Option Addr) (n c k d q e0 : Nat) (P : List Int) (D : List Bool) (R : List (List Int)) (y : Int) (w : World) (h : Pl w A n B k V q P D R) (hn : n ≤ 1048576) (hk : k ≤ 1048576) (hq : q + sizeL R ≤ 1048576) :
    Calls Try.prog 31 #[.agg #[.slice A n c, .slice B k d, .slice V q e0], .int .i64 y] w (GivesList w (pdE P D R y) (kfL P D R y)) := by
  have c0 := (Below.refl w.heap.size w).alloc (Nat.le_refl _) (.cells #[.slice A n c, .slice B k d, .slice V q e0] 30)
  have h0 := Lib.hid (h.on c0)
  have C0 := Lib.hid c0
  have K0 := Lib.hid (Cell3.new w 30 (.slice A n c) (.slice B k d) (.slice V q e0))
  have H := Lib.hid h
  have HP := Lib.hid h.b.ps.len
  have HR := Lib.hid h.r.len
  have HQ := Lib.hid hq
  obtain ⟨p0, p1, p2⟩ := K0.out.cells
  clear c0 h
  obtain ⟨ii, hi0, hz0, hz1, hz2⟩ := info_parts Try.info2'
  have HF := Lib.hid (And.intro hi0 (And.intro hz0 (And.intro hz1 hz2)))
  clear hi0 hz0 hz1 hz2
  obtain ⟨z, hz⟩ : ∃ z, pE P D R = z := ⟨_, rfl⟩
  have HZ := Lib.hid hz
  by_cases hz0 : z = 0
  rotate_left
  · have HD := Lib.hid (pd_bad (y := y) hz hz0)
    have HPB := Lib.hid (pE_not hz hz0)
    rw [HD.out.1, HD.out.2]
    clear hz hz0
    go_enter Try.func31, Try.ntmps31
    go_wp2_with fail
    refine (specIsPlan_any A B V n c k d q e0 P D R _ h0.out hn hk HQ.out).mono ?_
    rw [HPB.out.1]
    rintro e w1 ⟨rfl, b1⟩
    have C1 := Lib.hid (below_trans' C0.out b1)
    clear b1 p0 p1 p2
    go_wp2
    go_ret2
    exact ⟨none, 0, 0, by rw [HPB.out.2]; rfl, Own.nil _ (Nat.le_refl _), by omega, by omega, by omega, C1.out⟩
  subst hz0
  have hp := pE_zero hz
  obtain ⟨hT, n2, n24, hkn, q1', q10, hrig, hr⟩ := plan_facts H.out hp
  have HT := Lib.hid hT
  have HKN := Lib.hid hkn
  have HRR := Lib.hid hr
  have HRG := Lib.hid hrig
  have HPL := Lib.hid hp
  have HPE := Lib.hid hz
  clear hz hp hT hkn hr hrig
  go_enter Try.func31, Try.ntmps31
  go_wp2_with fail
  refine (specIsPlan_any A B V n c k d q e0 P D R _ h0.out hn hk HQ.out).mono ?_
  rw [HPL.out]
  rintro e w1 ⟨rfl, b1⟩
  have C1 := Lib.hid (below_trans' C0.out b1)
  have K1 := Lib.hid (K0.out.on b1)
  clear b1 p0 p1 p2 K0 h0 C0
  obtain ⟨p0, p1, p2⟩ := K1.out.cells
  go_wp2_with fail
  refine (l10Door_any A B V n c k d q e0 P D R y _ (H.out.on C1.out) hn HKN.out).mono ?_
  obtain ⟨hme, hmv⟩ := pd_at (y := y) HPL.out HR.out HP.out
  have HDR : Hid (isDr P D y = (inB y 0 ((n : Int) - 1) && dor D y.toNat)) := Lib.hid (by unfold isDr; rw [HP.out])
  rw [HDR.out]
  rcases hd : (inB y 0 ((n : Int) - 1) && dor D y.toNat) with _ | _
  · have HM : Hid (pdE P D R y = 2 ∧ kfL P D R y = []) := Lib.hid ⟨by rw [hme, hd]; rfl, by rw [hmv, hd]; rfl⟩
    rintro e w3 ⟨rfl, b3⟩
    have C3 := Lib.hid (below_trans' C1.out b3)
    clear b3 hd hme hmv p0 p1 p2
    go_wp2
    go_ret2
    exact ⟨none, 0, 0, by rw [HM.out.1]; rfl, by rw [HM.out.2]; exact Own.nil _ (Nat.le_refl _), by omega, by omega, by omega, C3.out⟩
  have hy := (Bool.and_eq_true _ _ ▸ hd).1
  rw [inB_true] at hy
  obtain ⟨Y, rfl⟩ := Int.eq_ofNat_of_zero_le hy.1
  have hY : Y < n := by omega
  have HM : Hid (pdE P D R (Y : Int) = 0 ∧ kfL P D R (Y : Int) = keysTo P R Y q) := Lib.hid ⟨by rw [hme, hd]; rfl, by rw [hmv, hd]; rfl⟩
  rintro e w3 ⟨rfl, b3⟩
  have C3 := Lib.hid (below_trans' C1.out b3)
  have K3 := Lib.hid (K1.out.on b3)
  have R2 := Lib.hid (rowNil (w := w3) (t := 2) (s := 1) (base := w3.heap.size) (Nat.le_refl _))
  have F2 := Lib.hid ((Below.refl w3.heap.size w3).alloc (Nat.le_refl _) (.cells #[] 2))
  clear b3 hd hme hmv hy p0 p1 p2 C1 K1
  go_wp2
  go_loopw [6, 7] (fun y x wr => ∃ (j s : Nat) (pv : Value), j ≤ q ∧ x = .int .i64 j ∧ y = pv ∧ s ≤ j ∧ Hid ((keysTo P R Y j).length = s) ∧ Hid (wr.ownsRow w3.heap.size 2 1 pv s (intsV (keysTo P R Y j))) ∧ Hid (Below w3.heap.size w3 wr)) (fun _ x _ => q - (intOf x).toNat)
  case atStart => exact ⟨0, 0, _, Nat.zero_le _, rfl, rfl, Nat.le_refl _, Lib.hid rfl, R2, F2⟩
  case round =>
    obtain ⟨j, s, pv, hj, rfl, rfl, hs, HQ2, HR2, HF2⟩ := hrel
    clear R2 F2
    obtain ⟨A1, c1, rfl, _, _, _⟩ := rowInts HR2.out HQ2.out
    have KK := Lib.hid (K3.out.on HF2.out)
    have CC := Lib.hid (below_trans' C3.out HF2.out)
    obtain ⟨p0, p1, p2⟩ := KK.out.cells
    by_cases hlt : j < q
    · obtain ⟨ad, ys, A2, q2', c2, rfl, hab, hy, hc, hi, _, _⟩ := (H.out.on CC.out).r.at_ hlt
      have HG : Hid (R.getD j [] = ys) := Lib.hid (getD_list hy)
      have HYJ : Hid (R[j]? = some ys) := Lib.hid hy
      have HI := Lib.hid hi
      have HCC := Lib.hid hc
      have HAB := Lib.hid hab
      have HY0 : Hid (∀ x ∈ ys, 0 ≤ x) := Lib.hid (fun x hx => (HRR.out j hlt x (by rw [getD_list hy]; exact hx)).1)
      have hq2 : q2' ≤ 1048576 := by have := fits_at HQ.out hy; have := hi.len; omega
      have i0 : (0 : Int) ≤ (j : Int) := by omega
      have i1 : (j : Int) < (q : Int) := by omega
      clear hy hi hab
      rcases hu : anyU P ys Y with _ | _
      · have HU := Lib.hid hu
        have HN := Lib.hid (keysTo_no (P := P) (R := R) (x := Y) (k := j) (by rw [HG.out]; exact hu))
        clear hu
        go_wp2
        go_region_held3 (fun w' => w'.cell? ⟨w.heap.size, 0, none⟩ = some (.slice A n c) ∧ w'.cell? ⟨w.heap.size, 1, none⟩ = some (.slice B k d) ∧ w'.cell? ⟨w.heap.size, 2, none⟩ = some (.slice (some ad) q e0) ∧ w'.cell? (ad.add j) = some (.slice A2 q2' c2))
          (first
            | go_keep
            | (with_reducible exact E1.out))
          (first | (go_at_call 92; refine (l10May_any A B A2 n c k d q2' c2 Y P D ys _ (H.out.on (below_drewN CC.out 1)).b HT.out (ints_drewN HI.out 1) hn hq2 hY HY0.out).mono ?_; rw [HU.out]; rintro e w4 ⟨rfl, b4⟩; have bb := below_trans' (below_drewN (Below.refl _ _) 1) b4; have F3 := Lib.hid (below_trans' HF2.out bb); have E1 := Lib.hid (And.intro (KK.out.on bb).cells.1 (And.intro (KK.out.on bb).cells.2.1 (And.intro (KK.out.on bb).cells.2.2 ((bb.cell (by rw [block_of_add]; exact HAB.out)).trans HCC.out))))))
        all_goals
          have R3 := Lib.hid (rowBelow HR2.out bb)
          clear p0 p1 p2 hc
          go_wp2
          go_roundw
          case rel => exact ⟨j + 1, s, _, by omega, by go_num, rfl, by omega, Lib.hid (by rw [HN.out]; exact HQ2.out), Lib.hid (by rw [HN.out]; exact R3.out), F3⟩
          case measure => simp [intOf]; omega
      · have HU := Lib.hid hu
        have HN := Lib.hid (keysTo_yes (P := P) (R := R) (x := Y) (k := j) (by rw [HG.out]; exact hu))
        clear hu
        go_wp2
        go_region_held3 (fun w' => w'.cell? ⟨w.heap.size, 0, none⟩ = some (.slice A n c) ∧ w'.cell? ⟨w.heap.size, 1, none⟩ = some (.slice B k d) ∧ w'.cell? ⟨w.heap.size, 2, none⟩ = some (.slice (some ad) q e0) ∧ w'.cell? (ad.add j) = some (.slice A2 q2' c2))
          (first
            | go_keep
            | (with_reducible exact E1.out))
          (first | (go_at_call 92; refine (l10May_any A B A2 n c k d q2' c2 Y P D ys _ (H.out.on (below_drewN CC.out 1)).b HT.out (ints_drewN HI.out 1) hn hq2 hY HY0.out).mono ?_; rw [HU.out]; rintro e w4 ⟨rfl, b4⟩; have bb := below_trans' (below_drewN (Below.refl _ _) 1) b4; have F3 := Lib.hid (below_trans' HF2.out bb); have E1 := Lib.hid (And.intro (KK.out.on bb).cells.1 (And.intro (KK.out.on bb).cells.2.1 (And.intro (KK.out.on bb).cells.2.2 ((bb.cell (by rw [block_of_add]; exact HAB.out)).trans HCC.out))))))
        all_goals
          have R3 := Lib.hid (rowBelow HR2.out bb)
          clear p0 p1 p2 hc
          have hszw := F3.out.size
          have HZV := Lib.hid (rowBase R3.out)
          go_wp2_with (at_builtin; refine wpList_append_lies _ rfl _ _ 24 rfl w3.heap.size 2 ii _ 1 8 Try.underlying24 HF.out.1 HF.out.2.1 HF.out.2.2.1 HF.out.2.2.2 rfl (by omega) _ s _ rfl (rowBelow R3.out ((Below.refl _ _).alloc (Nat.le_refl _) _)) ⟨w4.heap.size, 0, none⟩ 1 1 [.int .i64 (j : Int)] rfl rfl (World.news_of_block (cs := #[.int .i64 (j : Int)]) (t := 2) (fr := (0, 0)) (heap_alloc_new w4 _)) (by simp [Value.oneCell']) (by omega) (by unfold maxLen; omega) (by omega) (by simp; omega) (w4.heap.size + 1) (by simp) ?_; intro gg cap w5 hown1 hgrow hat hlt3)
          have R5 : Hid (w5.ownsRow w3.heap.size 2 1 (.slice (some ⟨gg, 0, none⟩) (s + 1) cap) (s + 1) (intsV (keysTo P R Y (j + 1)))) := Lib.hid (by rw [HN.out, ← intsV_snoc]; exact hown1)
          have Q5 : Hid ((keysTo P R Y (j + 1)).length = s + 1) := Lib.hid (by rw [HN.out, List.length_append, HQ2.out]; rfl)
          have F5 := Lib.hid ((F3.out.alloc F3.out.size (.cells #[.int .i64 (j : Int)] 2)).grown hgrow (by simp; omega) (fun q e => by have := HZV.out q e; omega))
          clear hown1 hgrow hat hlt3
          go_wp2
          go_roundw
          case rel => exact ⟨j + 1, s + 1, _, by omega, by go_num, rfl, by omega, Q5, R5, F5⟩
          case measure => simp [intOf]; omega
    · obtain rfl : j = q := by omega
      obtain ⟨A3, c3, e, ho, h1', h2'⟩ := rowInts HR2.out HQ2.out
      injection e with e1' e2' e3'
      subst e1'; subst e3'
      have HO := Lib.hid (ho.more C3.out.size (Nat.le_refl _) (Nat.le_refl _))
      have q9 : s ≤ 1048576 := by omega
      clear ho
      go_wp2
      go_ret2
      exact ⟨_, s, _, by rw [HM.out.1]; rfl, by rw [HM.out.2]; exact HO.out, q9, h1', h2', CC.out⟩

end Go.Proofs.Ytnadcjclihflcaa
