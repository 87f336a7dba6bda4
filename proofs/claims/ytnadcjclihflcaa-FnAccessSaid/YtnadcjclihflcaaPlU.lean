/- The model's MayEnter, DoorsFor and KeysFor. -/
import Derived.Test.YtnadcjclihflcaaPlT
namespace Go.Proofs.Ytnadcjclihflcaa
open Go Go.RowKit

set_option maxHeartbeats 1000000 in
theorem l10Code_any (A B V : Option Addr) (n c k d q e0 : Nat) (P : List Int) (D : List Bool) (R : List (List Int)) (x : Int) (w : World) (h : Pl w A n B k V q P D R) (hn : n ≤ 1048576) (hk : k ≤ 1048576) (hq : q + sizeL R ≤ 1048576) :
    Calls Try.prog 93 #[.agg #[.slice A n c, .slice B k d, .slice V q e0], .int .i64 x] w fun e w' => e = .returned (.int .i64 (pkE P D R x)) ∧ Below w.heap.size w w' := by
  have c0 := (Below.refl w.heap.size w).alloc (Nat.le_refl _) (.cells #[.slice A n c, .slice B k d, .slice V q e0] 30)
  have h0 := Lib.hid (h.on c0)
  have C0 := Lib.hid c0
  have K0 := Lib.hid (Cell3.new w 30 (.slice A n c) (.slice B k d) (.slice V q e0))
  have H := Lib.hid h
  have HP := Lib.hid h.b.ps.len
  have HR := Lib.hid h.r.len
  have HQ := Lib.hid hq
  obtain ⟨p0, p1, p2⟩ := K0.out.cells
  clear c0 h
  go_enter Try.func93, Try.ntmps93
  go_wp2_with fail
  refine (specIsPlan_any A B V n c k d q e0 P D R _ h0.out hn hk HQ.out).mono ?_
  rcases hb : planB P D R with _ | _
  · rintro e w1 ⟨rfl, b1⟩
    have C1 := Lib.hid (below_trans' C0.out b1)
    have HE : Hid (pkE P D R x = 1) := Lib.hid (by unfold pkE; rw [hb]; rfl)
    clear b1 hb p0 p1 p2
    go_wp2
    go_ret
    exact ⟨by rw [HE.out]; rfl, C1.out⟩
  rintro e w1 ⟨rfl, b1⟩
  have C1 := Lib.hid (below_trans' C0.out b1)
  have HB := Lib.hid hb
  obtain ⟨q0, q1, q2⟩ := (K0.out.on b1).cells
  clear b1 hb p0 p1 p2 C0 h0 K0
  go_wp2_with fail
  refine (l10Key_any A B V n c k d q e0 R x _ HR.out (by have := HQ.out; omega)).mono ?_
  rcases hk2 : isKy R x with _ | _
  · rintro e w2 ⟨rfl, b2⟩
    have C2 := Lib.hid (below_trans' C1.out b2)
    have HE : Hid (pkE P D R x = 2) := Lib.hid (by unfold pkE; rw [HB.out, hk2]; rfl)
    clear b2 hk2 q0 q1 q2
    go_wp2
    go_ret
    exact ⟨by rw [HE.out]; rfl, C2.out⟩
  · rintro e w2 ⟨rfl, b2⟩
    have C2 := Lib.hid (below_trans' C1.out b2)
    have HE : Hid (pkE P D R x = 0) := Lib.hid (by unfold pkE; rw [HB.out, hk2]; rfl)
    clear b2 hk2 q0 q1 q2
    go_wp2
    go_ret
    exact ⟨by rw [HE.out]; rfl, C2.out⟩

set_option maxRecDepth 100000 in
set_option maxHeartbeats 2000000 in
theorem specMayEnter_any (A B V : Option Addr) (n c k d q e0 : Nat) (P : List Int) (D : List Bool) (R : List (List Int)) (x y : Int) (w : World) (h : Pl w A n B k V q P D R) (hn : n ≤ 1048576) (hk : k ≤ 1048576) (hq : q + sizeL R ≤ 1048576) :
    Calls Try.prog 25 #[.agg #[.slice A n c, .slice B k d, .slice V q e0], .int .i64 x, .int .i64 y] w fun e w' => e = .returned (.tuple #[.bool (meV P D R x y), .int .i64 (meE P D R x y)]) ∧ Below w.heap.size w w' := by
  have c0 := (Below.refl w.heap.size w).alloc (Nat.le_refl _) (.cells #[.slice A n c, .slice B k d, .slice V q e0] 30)
  have h0 := Lib.hid (h.on c0)
  have C0 := Lib.hid c0
  have K0 := Lib.hid (Cell3.new w 30 (.slice A n c) (.slice B k d) (.slice V q e0))
  have H := Lib.hid h
  have HP := Lib.hid h.b.ps.len
  have HR := Lib.hid h.r.len
  have HQ := Lib.hid hq
  obtain ⟨p0, p1, p2⟩ := K0.out.cells
  clear c0 h
  go_enter Try.func25, Try.ntmps25
  go_wp2_with fail
  refine (specIsPlan_any A B V n c k d q e0 P D R _ h0.out hn hk HQ.out).mono ?_
  rcases hb : planB P D R with _ | _
  · rintro e w1 ⟨rfl, b1⟩
    have C1 := Lib.hid (below_trans' C0.out b1)
    have HE : Hid (meE P D R x y = 1) := Lib.hid (by unfold meE; rw [hb]; rfl)
    have HV : Hid (meV P D R x y = false) := Lib.hid (by unfold meV; rw [HE.out]; rfl)
    clear b1 hb p0 p1 p2
    go_wp2
    go_ret2
    exact ⟨by rw [HE.out, HV.out]; rfl, C1.out⟩
  obtain ⟨hT, n2, n24, hkn, q1', q10, hrig, hr⟩ := plan_facts H.out hb
  have HT := Lib.hid hT
  have HKN := Lib.hid hkn
  have HRR := Lib.hid hr
  rintro e w1 ⟨rfl, b1⟩
  have C1 := Lib.hid (below_trans' C0.out b1)
  have HB := Lib.hid hb
  have K1 := Lib.hid (K0.out.on b1)
  obtain ⟨q0, q1, q2⟩ := K1.out.cells
  clear b1 hb p0 p1 p2 C0 h0 K0 hT hkn hr hrig
  go_wp2_with fail
  refine (l10Key_any A B V n c k d q e0 R x _ HR.out (by have := HQ.out; omega)).mono ?_
  rcases hk2 : isKy R x with _ | _
  · rintro e w2 ⟨rfl, b2⟩
    have C2 := Lib.hid (below_trans' C1.out b2)
    have HE : Hid (meE P D R x y = 2) := Lib.hid (by unfold meE; rw [HB.out, hk2]; rfl)
    have HV : Hid (meV P D R x y = false) := Lib.hid (by unfold meV; rw [HE.out]; rfl)
    clear b2 hk2 q0 q1 q2
    go_wp2
    go_ret2
    exact ⟨by rw [HE.out, HV.out]; rfl, C2.out⟩
  rintro e w2 ⟨rfl, b2⟩
  have C2 := Lib.hid (below_trans' C1.out b2)
  have HK2 := Lib.hid hk2
  have K2 := Lib.hid (K1.out.on b2)
  clear b2 hk2 q0 q1 q2 C1 K1
  obtain ⟨q0, q1, q2⟩ := K2.out.cells
  go_wp2_with fail
  refine (l10Door_any A B V n c k d q e0 P D R y _ (H.out.on C2.out) hn HKN.out).mono ?_
  rcases hd : isDr P D y with _ | _
  · rintro e w3 ⟨rfl, b3⟩
    have C3 := Lib.hid (below_trans' C2.out b3)
    have HE : Hid (meE P D R x y = 2) := Lib.hid (by unfold meE; rw [HB.out, HK2.out, hd]; rfl)
    have HV : Hid (meV P D R x y = false) := Lib.hid (by unfold meV; rw [HE.out]; rfl)
    clear b3 hd q0 q1 q2
    go_wp2
    go_ret2
    exact ⟨by rw [HE.out, HV.out]; rfl, C3.out⟩
  rintro e w3 ⟨rfl, b3⟩
  have C3 := Lib.hid (below_trans' C2.out b3)
  have K3 := Lib.hid (K2.out.on b3)
  have HE : Hid (meE P D R x y = 0) := Lib.hid (by unfold meE; rw [HB.out, HK2.out, hd]; rfl)
  have HV : Hid (meV P D R x y = anyU P (riN R x) y.toNat) := Lib.hid (by unfold meV; rw [HE.out]; simp)
  unfold isDr at hd
  rw [Bool.and_eq_true, inB_true, HP.out] at hd
  obtain ⟨Y, rfl⟩ := Int.eq_ofNat_of_zero_le hd.1.1
  have hY : Y < n := by have := hd.1.2; omega
  have hx := HK2.out
  unfold isKy at hx
  rw [inB_true, HR.out] at hx
  obtain ⟨K, rfl⟩ := Int.eq_ofNat_of_zero_le hx.1
  have hK : K < q := by omega
  obtain ⟨ad, ys, A2, q2', c2, rfl, hab, hy, hc, hi, _, _⟩ := (H.out.on C3.out).r.at_ hK
  have HG : Hid (riN R (K : Int) = ys) := Lib.hid (by unfold riN; exact getD_list hy)
  have HI := Lib.hid hi
  have HCC := Lib.hid hc
  have HAB := Lib.hid hab
  have HY0 : Hid (∀ x ∈ ys, 0 ≤ x) := Lib.hid (fun x hx => by
    have := HRR.out K hK x (by rw [getD_list hy]; exact hx)
    exact this.1)
  have hq2 : q2' ≤ 1048576 := by have := fits_at HQ.out hy; have := hi.len; omega
  obtain ⟨bv, hbv⟩ : ∃ bv, bv = anyU P ys Y := ⟨_, rfl⟩
  have HBV := Lib.hid hbv
  have i0 : (0 : Int) ≤ (K : Int) := by omega
  have i1 : (K : Int) < (q : Int) := by omega
  clear b3 hd hx hbv hy hi hab q0 q1 q2 K2 C2
  obtain ⟨q0, q1, q2⟩ := K3.out.cells
  go_wp2
  go_region_held3 (fun w' => w'.cell? ⟨w.heap.size, 0, none⟩ = some (.slice A n c) ∧ w'.cell? ⟨w.heap.size, 1, none⟩ = some (.slice B k d) ∧ w'.cell? ⟨w.heap.size, 2, none⟩ = some (.slice (some ad) q e0) ∧ w'.cell? (ad.add K) = some (.slice A2 q2' c2))
    (first
      | go_keep
      | (with_reducible exact E1.out))
    (first | (go_at_call 92; refine (l10May_any A B A2 n c k d q2' c2 Y P D ys _ (H.out.on (below_drewN C3.out 1)).b HT.out (ints_drewN HI.out 1) hn hq2 hY HY0.out).mono ?_; rw [← HBV.out]; rintro e w4 ⟨rfl, b4⟩; have bb := below_trans' (below_drewN (Below.refl _ _) 1) b4; have C4 := Lib.hid (below_trans' C3.out bb); have E1 := Lib.hid (And.intro (K3.out.on bb).cells.1 (And.intro (K3.out.on bb).cells.2.1 (And.intro (K3.out.on bb).cells.2.2 ((bb.cell (by rw [block_of_add]; exact HAB.out)).trans HCC.out))))))
  all_goals
    clear q0 q1 q2 hc
    go_wp2
    go_ret2
    exact ⟨by rw [HE.out, HV.out, HG.out, Int.toNat_natCast, ← HBV.out]; rfl, C4.out⟩

set_option maxRecDepth 100000 in
set_option maxHeartbeats 2000000 in
theorem specDoorsFor_any (A B V : Option Addr) (n c k d q e0 : Nat) (P : List Int) (D : List Bool) (R : List (List Int)) (x : Int) (w : World) (h : Pl w A n B k V q P D R) (hn : n ≤ 1048576) (hk : k ≤ 1048576) (hq : q + sizeL R ≤ 1048576) :
    Calls Try.prog 28 #[.agg #[.slice A n c, .slice B k d, .slice V q e0], .int .i64 x] w (GivesList w (pkE P D R x) (dfL P D R x)) := by
  have c0 := (Below.refl w.heap.size w).alloc (Nat.le_refl _) (.cells #[.slice A n c, .slice B k d, .slice V q e0] 30)
  have h0 := Lib.hid (h.on c0)
  have C0 := Lib.hid c0
  have K0 := Lib.hid (Cell3.new w 30 (.slice A n c) (.slice B k d) (.slice V q e0))
  have H := Lib.hid h
  have HP := Lib.hid h.b.ps.len
  have HR := Lib.hid h.r.len
  have HQ := Lib.hid hq
  obtain ⟨p0, p1, p2⟩ := K0.out.cells
  clear c0 h
  obtain ⟨z, hz⟩ : ∃ z, pkE P D R x = z := ⟨_, rfl⟩
  have HZ := Lib.hid hz
  by_cases hz0 : z = 0
  rotate_left
  · have HD : Hid (dfL P D R x = []) := Lib.hid (by unfold dfL; rw [hz, if_neg hz0])
    have ht : (z != 0) = true := by simpa using hz0
    rw [hz, HD.out]
    clear hz hz0
    go_enter Try.func28, Try.ntmps28
    go_wp2_with fail
    refine (l10Code_any A B V n c k d q e0 P D R x _ h0.out hn hk HQ.out).mono ?_
    rw [HZ.out]
    rintro e w1 ⟨rfl, b1⟩
    have C1 := Lib.hid (below_trans' C0.out b1)
    clear b1 p0 p1 p2
    go_wp2
    go_ret2
    exact ⟨none, 0, 0, rfl, Own.nil _ (Nat.le_refl _), by omega, by omega, by omega, C1.out⟩
  subst hz0
  obtain ⟨hp, K, rfl, hK⟩ := pk_zero H.out.r.len hz
  obtain ⟨hT, n2, n24, hkn, q1', q10, hrig, hr⟩ := plan_facts H.out hp
  have HT := Lib.hid hT
  have HKN := Lib.hid hkn
  have HRR := Lib.hid hr
  have HRG := Lib.hid hrig
  have HPL := Lib.hid hp
  have HX : Hid (riN R (K : Int) = R.getD K []) := Lib.hid rfl
  have i0 : (0 : Int) ≤ (K : Int) := by omega
  have i1 : (K : Int) < (q : Int) := by omega
  have HC0 := Lib.hid hz
  rw [hz]
  clear hz hp hT hkn hr hrig
  have HD : Hid (dfL P D R (K : Int) = amD D (anyU P (R.getD K [])) n) := Lib.hid (by unfold dfL; rw [HC0.out, if_pos rfl, HP.out]; rfl)
  rw [HD.out]
  go_enter Try.func28, Try.ntmps28
  go_wp2_with fail
  refine (l10Code_any A B V n c k d q e0 P D R (K : Int) _ h0.out hn hk HQ.out).mono ?_
  rw [HZ.out]
  rintro e w1 ⟨rfl, b1⟩
  have C1 := Lib.hid (below_trans' C0.out b1)
  have K1 := Lib.hid (K0.out.on b1)
  clear b1 p0 p1 p2 K0 h0 C0
  obtain ⟨p0, p1, p2⟩ := K1.out.cells
  obtain ⟨ad, ys, A2, q2', c2, rfl, hab, hy, hc, hi, _, _⟩ := (H.out.on C1.out).r.at_ hK
  have HG : Hid (R.getD K [] = ys) := Lib.hid (getD_list hy)
  have HI := Lib.hid hi
  have HCC := Lib.hid hc
  have HAB := Lib.hid hab
  have HY0 : Hid (∀ x ∈ ys, 0 ≤ x ∧ x < n) := Lib.hid (fun x hx => HRR.out K hK x (by rw [getD_list hy]; exact hx))
  have HYR : Hid (rigB n ys = true) := Lib.hid (by rw [← getD_list hy]; exact HRG.out K hK)
  have hq2 : q2' ≤ 1048576 := by have := fits_at HQ.out hy; have := hi.len; omega
  clear hy hi hab
  go_wp2
  go_region_held3 (fun w' => w'.cell? ⟨w.heap.size, 0, none⟩ = some (.slice A n c) ∧ w'.cell? ⟨w.heap.size, 1, none⟩ = some (.slice B k d) ∧ w'.cell? ⟨w.heap.size, 2, none⟩ = some (.slice (some ad) q e0) ∧ w'.cell? (ad.add K) = some (.slice A2 q2' c2))
    (first
      | go_keep
      | (with_reducible exact E1.out))
    (first | (go_at_call 94; refine (l10Doors_any A B A2 n c k d q2' c2 P D ys _ (H.out.on (below_drewN C1.out 1)).b HT.out HKN.out (by omega) n24 (ints_drewN HI.out 1) hq2 (fun x hx => (HY0.out x hx).1)).mono ?_; rintro e w4 ⟨A4, n4, c4, rfl, ho, h1, h2, h3, b4⟩; have bb := below_trans' (below_drewN (Below.refl _ _) 1) b4; have C4 := Lib.hid (below_trans' C1.out bb); have HO := Lib.hid (ho.more (below_drewN C1.out 1).size (Nat.le_refl _) (Nat.le_refl _)); have E1 := Lib.hid (And.intro (K1.out.on bb).cells.1 (And.intro (K1.out.on bb).cells.2.1 (And.intro (K1.out.on bb).cells.2.2 ((bb.cell (by rw [block_of_add]; exact HAB.out)).trans HCC.out))))))
  all_goals
    clear p0 p1 p2 hc
    go_wp2
    go_ret2
    exact ⟨_, _, _, rfl, by rw [HG.out]; exact HO.out, h1, h2, h3, C4.out⟩

end Go.Proofs.Ytnadcjclihflcaa
