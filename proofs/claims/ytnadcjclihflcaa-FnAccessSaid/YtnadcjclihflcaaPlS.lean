/- Plans of the model: rights, IsPlan, codes, what a key may enter. -/
import Derived.Test.YtnadcjclihflcaaPlF
import Derived.Test.YtnadcjclihflcaaBldG
namespace Go.Proofs.Ytnadcjclihflcaa
open Go Go.RowKit

theorem rig_some {n : Nat} {xs : List Int} (h : 0 < xs.length) : rigB n xs = riseB n xs := by
  unfold rigB
  rcases xs with _ | ⟨y, t⟩
  · simp at h
  · rfl
theorem l10Nodes_any (A B N : Option Addr) (n c k d r e1 : Nat) (xs : List Int) (w : World) (hx : Ints w w.heap.size N r xs) (hr : r ≤ 1048576) :
    Calls Try.prog 107 #[.agg #[.slice A n c, .slice B k d], .slice N r e1] w fun e w' => e = .returned (.bool (rigB n xs)) ∧ Below w.heap.size w w' := by
  have c0 := (Below.refl w.heap.size w).alloc (Nat.le_refl _) (.cells #[.slice A n c, .slice B k d] 27)
  have x0 := Lib.hid (hx.on c0)
  have HL := Lib.hid hx.len
  have C0 := Lib.hid c0
  obtain ⟨p0, p1⟩ := (Cell2.new w 27 (.slice A n c) (.slice B k d)).cells
  clear c0
  by_cases h0 : 0 < r
  · have HE : Hid (rigB n xs = riseB n xs) := Lib.hid (rig_some (by rw [HL.out]; exact h0))
    go_enter Try.func107, Try.ntmps107
    go_wp2_with fail
    refine (l01Rises_any _ _ _ xs _ _ x0.out hr).mono ?_
    rintro e w1 ⟨rfl, b1⟩
    have C1 := Lib.hid (below_trans' C0.out b1)
    clear b1
    go_wp2
    go_ret
    exact ⟨ret_bool HE.out.symm, C1.out⟩
  · have hr0 : r = 0 := by omega
    subst hr0
    obtain rfl := List.eq_nil_of_length_eq_zero HL.out
    go_enter Try.func107, Try.ntmps107
    go_wp2_with fail
    go_ret
    exact ⟨rfl, C0.out⟩

theorem any_take {P xs : List Int} {j i : Nat} {v : Int} (hv : xs[j]? = some v) (h : und P v.toNat i = true) : anyU P xs i = true := by
  unfold anyU; rw [List.any_eq_true]; exact ⟨v, List.mem_of_getElem? hv, h⟩

theorem Ints.lt_at {w : World} {B n k : Nat} {ad : Addr} {xs : List Int} (h : Ints w B (some ad) n xs) (hk : k < n) : ad.block < B := by
  obtain ⟨a, e, hb, _⟩ := h.2 (by omega)
  injection e with e
  subst e
  exact hb

set_option maxHeartbeats 1000000 in
theorem l10May_any (A B N : Option Addr) (n c k d r e1 i : Nat) (P : List Int) (D : List Bool) (xs : List Int) (w : World) (h : Bld w A n B k P D) (hT : Tree P) (hx : Ints w w.heap.size N r xs) (hn : n ≤ 1048576) (hr : r ≤ 1048576) (hi : i < n) (h0 : ∀ x ∈ xs, 0 ≤ x) :
    Calls Try.prog 92 #[.agg #[.slice A n c, .slice B k d], .slice N r e1, .int .i64 i] w fun e w' => e = .returned (.bool (anyU P xs i)) ∧ Below w.heap.size w w' := by
  have c0 := (Below.refl w.heap.size w).alloc (Nat.le_refl _) (.cells #[.slice A n c, .slice B k d] 27)
  have K0 := Lib.hid (Cell2.new w 27 (.slice A n c) (.slice B k d))
  have C0 := Lib.hid c0
  have HL := Lib.hid hx.len
  have H := Lib.hid h
  have X := Lib.hid hx
  have HT := Lib.hid hT
  have H0 := Lib.hid h0
  clear c0 h hx hT h0
  go_enter Try.func92, Try.ntmps92
  go_wp2
  go_loopw [7] (fun v wr => ∃ j : Nat, j ≤ r ∧ v = .int .i64 j ∧ Hid (anyU P (xs.take j) i = false) ∧ Hid (Cell2 wr w.heap.size 27 (.slice A n c) (.slice B k d)) ∧ Hid (Below w.heap.size w wr)) (fun v _ => r - (intOf v).toNat)
  case atStart => exact ⟨0, Nat.zero_le _, rfl, Lib.hid rfl, K0, C0⟩
  case round =>
    obtain ⟨j, hj, rfl, hno, HK, HB⟩ := hrel
    clear K0 C0
    obtain ⟨p0, p1⟩ := HK.out.cells
    by_cases hlt : j < r
    · obtain ⟨ad, v, rfl, hab, hv, hc⟩ := (X.out.on HB.out).at_ hlt
      have HV := Lib.hid hv
      have i0 : (0 : Int) ≤ (j : Int) := by omega
      have i1 : (j : Int) < (r : Int) := by omega
      have HV0 : Hid (0 ≤ v) := Lib.hid (H0.out v (List.mem_of_getElem? hv))
      have HC := Lib.hid hc
      clear hv hab
      rcases hu : und P v.toNat i with _ | _
      · have HU := Lib.hid hu
        clear hu
        go_wp2
        go_region_held3 (fun w' => w'.cell? ⟨w.heap.size, 0, none⟩ = some (.slice A n c) ∧ w'.cell? ⟨w.heap.size, 1, none⟩ = some (.slice B k d) ∧ w'.cell? (ad.add j) = some (.int .i64 v))
          (first
            | go_keep
            | (with_reducible exact E1.out))
          (first | (go_at_call 99; refine (l09Under_any A B n c k d i v P D _ (H.out.on (below_drewN HB.out 1)) HT.out hn hi HV0.out).mono ?_; rw [HU.out]; rintro e w2 ⟨rfl, b2⟩; have bb := below_trans' (below_drewN (Below.refl _ _) 1) b2; have B2 := Lib.hid (below_trans' HB.out bb); have K2 := Lib.hid (HK.out.on bb); have E1 := Lib.hid (And.intro K2.out.cells.1 (And.intro K2.out.cells.2 ((bb.cell (by rw [block_of_add]; exact (X.out.on HB.out).lt_at hlt)).trans HC.out)))))
        all_goals
          have HN : Hid (anyU P (xs.take (j + 1)) i = false) := Lib.hid (by rw [may_take HV.out, hno.out, HU.out]; rfl)
          clear p0 p1 hc
          go_wp2
          go_roundw
          case rel => exact ⟨j + 1, by omega, by go_num, HN, K2, B2⟩
          case measure => simp [intOf]; omega
      · have HU := Lib.hid hu
        clear hu
        go_wp2
        go_region_held3 (fun w' => w'.cell? ⟨w.heap.size, 0, none⟩ = some (.slice A n c) ∧ w'.cell? ⟨w.heap.size, 1, none⟩ = some (.slice B k d) ∧ w'.cell? (ad.add j) = some (.int .i64 v))
          (first
            | go_keep
            | (with_reducible exact E1.out))
          (first | (go_at_call 99; refine (l09Under_any A B n c k d i v P D _ (H.out.on (below_drewN HB.out 1)) HT.out hn hi HV0.out).mono ?_; rw [HU.out]; rintro e w2 ⟨rfl, b2⟩; have bb := below_trans' (below_drewN (Below.refl _ _) 1) b2; have B2 := Lib.hid (below_trans' HB.out bb); have K2 := Lib.hid (HK.out.on bb); have E1 := Lib.hid (And.intro K2.out.cells.1 (And.intro K2.out.cells.2 ((bb.cell (by rw [block_of_add]; exact (X.out.on HB.out).lt_at hlt)).trans HC.out)))))
        all_goals
          have HN : Hid (anyU P xs i = true) := Lib.hid (any_take HV.out HU.out)
          clear p0 p1 hc
          go_wp2
          go_ret
          exact ⟨ret_bool HN.out.symm, B2.out⟩
    · have HE : Hid (anyU P xs i = false) := Lib.hid (by rw [← hno.out, List.take_of_length_le (by have := HL.out; omega)])
      go_wp2
      go_ret
      exact ⟨ret_bool HE.out.symm, HB.out⟩

theorem l10Key_any (A B V : Option Addr) (n c k d q e0 : Nat) (R : List (List Int)) (x : Int) (w : World) (hl : R.length = q) (hq : q ≤ 1048576) :
    Calls Try.prog 90 #[.agg #[.slice A n c, .slice B k d, .slice V q e0], .int .i64 x] w fun e w' => e = .returned (.bool (isKy R x)) ∧ Below w.heap.size w w' := by
  have C0 := Lib.hid ((Below.refl w.heap.size w).alloc (Nat.le_refl _) (.cells #[.slice A n c, .slice B k d, .slice V q e0] 30))
  obtain ⟨p0, p1, p2⟩ := (Cell3.new w 30 (.slice A n c) (.slice B k d) (.slice V q e0)).cells
  have HE : Hid (isKy R x = inB x 0 ((q : Int) - 1)) := Lib.hid (by unfold isKy; rw [hl])
  go_enter Try.func90, Try.ntmps90
  go_wp2_with (go_at_call 113; (with_reducible refine (l01In_any _ _ _ _).mono ?_); rintro e w' ⟨rfl, rfl⟩)
  go_ret
  exact ⟨ret_bool HE.out.symm, C0.out⟩

theorem l10Door_any (A B V : Option Addr) (n c k d q e0 : Nat) (P : List Int) (D : List Bool) (R : List (List Int)) (x : Int) (w : World) (h : Pl w A n B k V q P D R) (hn : n ≤ 1048576) (hkn : k = n) :
    Calls Try.prog 91 #[.agg #[.slice A n c, .slice B k d, .slice V q e0], .int .i64 x] w fun e w' => e = .returned (.bool (isDr P D x)) ∧ Below w.heap.size w w' := by
  subst hkn
  have c0 := (Below.refl w.heap.size w).alloc (Nat.le_refl _) (.cells #[.slice A k c, .slice B k d, .slice V q e0] 30)
  have h0 := Lib.hid (h.on c0)
  have C0 := Lib.hid c0
  have K0 := Lib.hid (Cell3.new w 30 (.slice A k c) (.slice B k d) (.slice V q e0))
  have HL := Lib.hid h.b.ps.len
  obtain ⟨p0, p1, p2⟩ := K0.out.cells
  clear c0 h
  go_enter Try.func91, Try.ntmps91
  go_wp2_with fail
  refine (l09Node_any A B k c k d x _ hn).mono ?_
  rcases hin : inB x 0 ((k : Int) - 1) with _ | _
  · rintro e w1 ⟨rfl, b1⟩
    have C1 := Lib.hid (below_trans' C0.out b1)
    have HE : Hid (isDr P D x = false) := Lib.hid (by unfold isDr; rw [HL.out, hin]; rfl)
    clear b1 hin p0 p1 p2
    go_wp2
    go_ret
    exact ⟨ret_bool HE.out.symm, C1.out⟩
  · rintro e w1 ⟨rfl, b1⟩
    have C1 := Lib.hid (below_trans' C0.out b1)
    have H1 := Lib.hid (h0.out.on b1)
    have hin' := inB_true.1 hin
    obtain ⟨X, rfl⟩ := Int.eq_ofNat_of_zero_le hin'.1
    have hX : X < k := by omega
    obtain ⟨ad, rfl, hd⟩ := H1.out.b.dor_at hX
    obtain ⟨q0, q1, q2⟩ := (K0.out.on b1).cells
    have HE : Hid (isDr P D (X : Int) = dor D X) := Lib.hid (by unfold isDr; rw [HL.out, hin]; rfl)
    have i0 : (0 : Int) ≤ (X : Int) := by omega
    have i1 : (X : Int) < (k : Int) := by omega
    clear b1 hin hin' p0 p1 p2
    go_wp2
    go_ret
    exact ⟨ret_bool HE.out.symm, C1.out⟩

set_option maxHeartbeats 1000000 in
theorem specIsPlan_any (A B V : Option Addr) (n c k d q e0 : Nat) (P : List Int) (D : List Bool) (R : List (List Int)) (w : World) (h : Pl w A n B k V q P D R) (hn : n ≤ 1048576) (hk : k ≤ 1048576) (hq : q + sizeL R ≤ 1048576) :
    Calls Try.prog 52 #[.agg #[.slice A n c, .slice B k d, .slice V q e0]] w fun e w' => e = .returned (.bool (planB P D R)) ∧ Below w.heap.size w w' := by
  have c0 := (Below.refl w.heap.size w).alloc (Nat.le_refl _) (.cells #[.slice A n c, .slice B k d, .slice V q e0] 30)
  have h0 := Lib.hid (h.on c0)
  have C0 := Lib.hid c0
  have K0 := Lib.hid (Cell3.new w 30 (.slice A n c) (.slice B k d) (.slice V q e0))
  have HP := Lib.hid h.b.ps.len
  have HR := Lib.hid h.r.len
  have HQ := Lib.hid hq
  obtain ⟨p0, p1, p2⟩ := K0.out.cells
  clear c0 h hq
  go_enter Try.func52, Try.ntmps52
  go_wp2_with fail
  refine (specIsBuilding_any A B n c k d P D _ h0.out.b hn hk).mono ?_
  rcases hb : bldB P D with _ | _
  · rintro e w1 ⟨rfl, b1⟩
    have C1 := Lib.hid (below_trans' C0.out b1)
    have HB := Lib.hid (planB_bad (R := R) hb)
    clear b1 hb p0 p1 p2
    go_wp2
    go_ret
    exact ⟨ret_bool HB.out.symm, C1.out⟩
  rintro e w1 ⟨rfl, b1⟩
  have C1 := Lib.hid (below_trans' C0.out b1)
  have H1 := Lib.hid (h0.out.on b1)
  have K1 := Lib.hid (K0.out.on b1)
  have HB := Lib.hid hb
  obtain ⟨q0, q1, q2⟩ := K1.out.cells
  clear b1 hb p0 p1 p2 C0 h0 K0
  rcases hin : inB q 1 10 with _ | _
  · have HE := Lib.hid (planB_keys (P := P) (D := D) HR.out hin)
    go_wp2_with (go_at_call 113; (with_reducible refine (l01In_any _ _ _ _).mono ?_); rintro e w' ⟨rfl, rfl⟩)
    go_ret
    exact ⟨ret_bool HE.out.symm, C1.out⟩
  have HIN := Lib.hid hin
  have hq10 := inB_true.1 hin
  go_wp2_with (go_at_call 113; (with_reducible refine (l01In_any _ _ _ _).mono ?_); rintro e w' ⟨rfl, rfl⟩)
  clear q0 q1 q2 hin
  go_loopw [3] (fun i wr => ∃ j : Nat, j ≤ q ∧ i = .int .i64 j ∧ Hid ((R.take j).all (rigB n) = true) ∧ Hid (Cell3 wr w.heap.size 30 (.slice A n c) (.slice B k d) (.slice V q e0)) ∧ Hid (Pl wr A n B k V q P D R) ∧ Hid (Below w.heap.size w wr)) (fun i _ => q - (intOf i).toNat)
  case atStart => exact ⟨0, Nat.zero_le _, rfl, Lib.hid rfl, K1, H1, C1⟩
  case round =>
    obtain ⟨j, hj, rfl, hall, HK, HX, HC⟩ := hrel
    clear K1 H1 C1
    obtain ⟨p0, p1, p2⟩ := HK.out.cells
    by_cases hlt : j < q
    · obtain ⟨ad, ys, A2, q2, c2, rfl, hab, hy, hc, hi, _, _⟩ := HX.out.r.at_ hlt
      have HY := Lib.hid hy
      have HI := Lib.hid hi
      have HCC := Lib.hid hc
      have HAB := Lib.hid hab
      have hq2 : q2 ≤ 1048576 := by have := fits_at HQ.out hy; have := hi.len; omega
      have i0 : (0 : Int) ≤ (j : Int) := by omega
      have i1 : (j : Int) < (q : Int) := by omega
      clear hy hi hab
      rcases hr : rigB n ys with _ | _
      · have HU := Lib.hid hr
        clear hr
        go_wp2
        go_region_held3 (fun w' => w'.cell? ⟨w.heap.size, 0, none⟩ = some (.slice A n c) ∧ w'.cell? ⟨w.heap.size, 1, none⟩ = some (.slice B k d) ∧ w'.cell? ⟨w.heap.size, 2, none⟩ = some (.slice (some ad) q e0) ∧ w'.cell? (ad.add j) = some (.slice A2 q2 c2))
          (first
            | go_keep
            | (with_reducible exact E1.out))
          (first | (go_at_call 107; refine (l10Nodes_any A B A2 n c k d q2 c2 ys _ (ints_drewN HI.out 1) hq2).mono ?_; rw [HU.out]; rintro e w2 ⟨rfl, b2⟩; have bb := below_trans' (below_drewN (Below.refl _ _) 1) b2; have B2 := Lib.hid (below_trans' HC.out bb); have K2 := Lib.hid (HK.out.on bb); have H2 := Lib.hid (HX.out.on bb); have E1 := Lib.hid (And.intro K2.out.cells.1 (And.intro K2.out.cells.2.1 (And.intro K2.out.cells.2.2 ((bb.cell (by rw [block_of_add]; exact HAB.out)).trans HCC.out))))))
        all_goals
          have HE := Lib.hid (planB_key (D := D) HP.out HY.out HU.out)
          clear p0 p1 p2 hc
          go_wp2
          go_ret
          exact ⟨ret_bool HE.out.symm, B2.out⟩
      · have HU := Lib.hid hr
        clear hr
        go_wp2
        go_region_held3 (fun w' => w'.cell? ⟨w.heap.size, 0, none⟩ = some (.slice A n c) ∧ w'.cell? ⟨w.heap.size, 1, none⟩ = some (.slice B k d) ∧ w'.cell? ⟨w.heap.size, 2, none⟩ = some (.slice (some ad) q e0) ∧ w'.cell? (ad.add j) = some (.slice A2 q2 c2))
          (first
            | go_keep
            | (with_reducible exact E1.out))
          (first | (go_at_call 107; refine (l10Nodes_any A B A2 n c k d q2 c2 ys _ (ints_drewN HI.out 1) hq2).mono ?_; rw [HU.out]; rintro e w2 ⟨rfl, b2⟩; have bb := below_trans' (below_drewN (Below.refl _ _) 1) b2; have B2 := Lib.hid (below_trans' HC.out bb); have K2 := Lib.hid (HK.out.on bb); have H2 := Lib.hid (HX.out.on bb); have E1 := Lib.hid (And.intro K2.out.cells.1 (And.intro K2.out.cells.2.1 (And.intro K2.out.cells.2.2 ((bb.cell (by rw [block_of_add]; exact HAB.out)).trans HCC.out))))))
        all_goals
          have HA : Hid ((R.take (j + 1)).all (rigB n) = true) := Lib.hid (by
            obtain ⟨hl, e⟩ := List.getElem?_eq_some_iff.1 HY.out
            rw [List.take_succ_eq_append_getElem hl, List.all_append, hall.out, e]
            simp [HU.out])
          clear p0 p1 p2 hc
          go_wp2
          go_roundw
          case rel => exact ⟨j + 1, by omega, by go_num, HA, K2, H2, B2⟩
          case measure => simp [intOf]; omega
    · have HE : Hid (planB P D R = true) := Lib.hid (by
        have h1 := hall.out
        rw [List.take_of_length_le (by have := HR.out; omega)] at h1
        unfold planB
        rw [HB.out, HR.out, HIN.out, HP.out, h1]; rfl)
      go_wp2
      go_ret
      exact ⟨ret_bool HE.out.symm, HC.out⟩

end Go.Proofs.Ytnadcjclihflcaa
