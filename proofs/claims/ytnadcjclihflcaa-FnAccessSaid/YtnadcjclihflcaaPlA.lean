/- Plans of the program: rights, the doors of a plan, what is within reach, tops, IsPlan, sheets. -/
import Derived.Test.YtnadcjclihflcaaPlK
import Derived.Test.YtnadcjclihflcaaBldD
namespace Go.Proofs.Ytnadcjclihflcaa
open Go Go.RowKit

theorem areRights_any (A B V N : Option Addr) (n c k d q e0 r e1 : Nat) (xs : List Int) (w : World) (hx : Ints w w.heap.size N r xs) (hr : r ≤ 1048576) :
    Calls Try.prog 97 #[.agg #[.slice A n c, .slice B k d, .slice V q e0], .slice N r e1] w fun e w' => e = .returned (.bool (rigB n xs)) ∧ Below w.heap.size w w' := by
  have c0 := (Below.refl w.heap.size w).alloc (Nat.le_refl _) (.cells #[.slice A n c, .slice B k d, .slice V q e0] 84)
  have x0 := Lib.hid (hx.on c0)
  have HL := Lib.hid hx.len
  have C0 := Lib.hid c0
  obtain ⟨p0, p1, p2⟩ := (Cell3.new w 84 (.slice A n c) (.slice B k d) (.slice V q e0)).cells
  clear c0
  by_cases h0 : 0 < r
  · have HE : Hid (rigB n xs = riseB n xs) := Lib.hid (by
      unfold rigB
      have : xs.isEmpty = false := by
        rcases xs with _ | ⟨y, t⟩
        · have := HL.out; simp at this; omega
        · rfl
      rw [this]; rfl)
    go_enter Try.func97, Try.ntmps97
    go_wp2_with (go_at_call 134; refine (isRising_any _ _ _ xs _ _ x0.out hr).mono ?_; rintro e w' ⟨rfl, rfl⟩)
    go_ret
    exact ⟨ret_bool HE.out.symm, C0.out⟩
  · have hr0 : r = 0 := by omega
    subst hr0
    obtain rfl := List.eq_nil_of_length_eq_zero HL.out
    go_enter Try.func97, Try.ntmps97
    go_wp2_with fail
    go_ret
    exact ⟨rfl, C0.out⟩

theorem isDoor_any (A B V : Option Addr) (n c k d q e0 : Nat) (P : List Int) (D : List Bool) (x : Int) (w : World) (h : Bld w A n B k P D) (hk : k ≤ 1048576) :
    Calls Try.prog 89 #[.agg #[.slice A n c, .slice B k d, .slice V q e0], .int .i64 x] w fun e w' => e = .returned (.bool (inB x 0 ((k : Int) - 1) && dor D x.toNat)) ∧ Below w.heap.size w w' := by
  have c0 := (Below.refl w.heap.size w).alloc (Nat.le_refl _) (.cells #[.slice A n c, .slice B k d, .slice V q e0] 84)
  have h0 := Lib.hid (h.on c0)
  have C0 := Lib.hid c0
  obtain ⟨p0, p1, p2⟩ := (Cell3.new w 84 (.slice A n c) (.slice B k d) (.slice V q e0)).cells
  clear c0
  rcases hin : inB x 0 ((k : Int) - 1) with _ | _
  · go_enter Try.func89, Try.ntmps89
    go_wp2_with (go_at_call 96; (with_reducible refine (isWithin_any _ _ _ _).mono ?_); rintro e w' ⟨rfl, rfl⟩)
    go_ret
    exact ⟨rfl, C0.out⟩
  · have hin' := inB_true.1 hin
    obtain ⟨X, rfl⟩ := Int.eq_ofNat_of_zero_le hin'.1
    have hX : X < k := by omega
    obtain ⟨ad, rfl, hd⟩ := h0.out.dor_at hX
    have i0 : (0 : Int) ≤ (X : Int) := by omega
    have i1 : (X : Int) < (k : Int) := by omega
    clear hin'
    rw [Int.toNat_natCast]
    go_enter Try.func89, Try.ntmps89
    go_wp2_with (go_at_call 96; (with_reducible refine (isWithin_any _ _ _ _).mono ?_); rintro e w' ⟨rfl, rfl⟩)
    go_ret
    exact ⟨by simp, C0.out⟩

theorem planB_bad {P : List Int} {D : List Bool} {R : List (List Int)} (h : bldB P D = false) : planB P D R = false := by unfold planB; rw [h]; rfl
theorem planB_keys {P : List Int} {D : List Bool} {R : List (List Int)} {q : Nat} (hl : R.length = q) (h : inB q 1 10 = false) : planB P D R = false := by unfold planB; rw [hl, h]; simp
theorem planB_key {P : List Int} {D : List Bool} {R : List (List Int)} {n j : Nat} {ys : List Int} (hp : P.length = n) (hy : R[j]? = some ys) (h : rigB n ys = false) : planB P D R = false := by
  unfold planB
  have : R.all (rigB P.length) = false := by
    rw [List.all_eq_false]
    exact ⟨ys, List.mem_of_getElem? hy, by rw [hp, h]; simp⟩
  rw [this]; simp

set_option maxHeartbeats 1000000 in
theorem isPlan_any (A B V : Option Addr) (n c k d q e0 : Nat) (P : List Int) (D : List Bool) (R : List (List Int)) (w : World) (h : Pl w A n B k V q P D R) (hn : n ≤ 1048576) (hk : k ≤ 1048576) (hq : q + sizeL R ≤ 1048576) :
    Calls Try.prog 34 #[.agg #[.slice A n c, .slice B k d, .slice V q e0]] w fun e w' => e = .returned (.bool (planB P D R)) ∧ Below w.heap.size w w' := by
  have c0 := (Below.refl w.heap.size w).alloc (Nat.le_refl _) (.cells #[.slice A n c, .slice B k d, .slice V q e0] 30)
  have h0 := Lib.hid (h.on c0)
  have C0 := Lib.hid c0
  have K0 := Lib.hid (Cell3.new w 30 (.slice A n c) (.slice B k d) (.slice V q e0))
  have HP := Lib.hid h.b.ps.len
  have HR := Lib.hid h.r.len
  have HQ := Lib.hid hq
  obtain ⟨p0, p1, p2⟩ := K0.out.cells
  clear c0 h hq
  go_enter Try.func34, Try.ntmps34
  go_wp2_with fail
  refine (isBuilding_any A B n c k d P D _ h0.out.b hn hk).mono ?_
  rcases hb : bldB P D with _ | _
  · rintro e w1 ⟨rfl, b1⟩
    have C1 := Lib.hid (below_trans' C0.out b1)
    have HB := Lib.hid (planB_bad (R := R) hb)
    clear b1 hb p0 p1 p2
    go_wp2
    go_ret
    exact ⟨ret_bool HB.out.symm, C1.out⟩
  rintro e w1 ⟨rfl, b1⟩
  have C1 := Lib.hid (below_trans' C0.out b1)
  have H1 := Lib.hid (h0.out.on b1)
  have K1 := Lib.hid (K0.out.on b1)
  have HB := Lib.hid hb
  obtain ⟨q0, q1, q2⟩ := K1.out.cells
  clear b1 hb p0 p1 p2 C0 h0 K0
  rcases hin : inB q 1 10 with _ | _
  · have HE := Lib.hid (planB_keys (P := P) (D := D) HR.out hin)
    go_wp2_with (go_at_call 96; (with_reducible refine (isWithin_any _ _ _ _).mono ?_); rintro e w' ⟨rfl, rfl⟩)
    go_ret
    exact ⟨ret_bool HE.out.symm, C1.out⟩
  have HIN := Lib.hid hin
  have hq10 := inB_true.1 hin
  have K2 := Lib.hid (K1.out.alloc (.cells #[.slice A n c, .slice B k d, .slice V q e0] 84))
  have J2 := Lib.hid (Cell3.new w1 84 (.slice A n c) (.slice B k d) (.slice V q e0))
  have H2 := Lib.hid (H1.out.alloc (.cells #[.slice A n c, .slice B k d, .slice V q e0] 84))
  have C2 := Lib.hid (C1.out.alloc C1.out.size (.cells #[.slice A n c, .slice B k d, .slice V q e0] 84))
  obtain ⟨p0, p1, p2⟩ := K2.out.cells
  go_wp2_with (go_at_call 96; (with_reducible refine (isWithin_any _ _ _ _).mono ?_); rintro e w' ⟨rfl, rfl⟩)
  clear q0 q1 q2 p0 p1 p2 hin K1 H1 C1 K2
  go_loopw [25] (fun i wr => ∃ j : Nat, j ≤ q ∧ i = .int .i64 j ∧ Hid ((R.take j).all (rigB n) = true) ∧ Hid (Cell3 wr w1.heap.size 84 (.slice A n c) (.slice B k d) (.slice V q e0)) ∧ Hid (Pl wr A n B k V q P D R) ∧ Hid (Below w.heap.size w wr)) (fun i _ => q - (intOf i).toNat)
  case atStart => exact ⟨0, Nat.zero_le _, rfl, Lib.hid rfl, J2, H2, C2⟩
  case round =>
    obtain ⟨j, hj, rfl, hall, HK, HX, HC⟩ := hrel
    clear J2 H2 C2
    by_cases hlt : j < q
    · obtain ⟨ad, ys, A2, q2, c2, rfl, hab, hy, hc, hi, _, _⟩ := HX.out.r.at_ hlt
      obtain ⟨p0, p1, p2⟩ := HK.out.cells
      have HY := Lib.hid hy
      have HI := Lib.hid hi
      have hq2 : q2 ≤ 1048576 := by have := fits_at HQ.out hy; have := hi.len; omega
      have i0 : (0 : Int) ≤ (j : Int) := by omega
      have i1 : (j : Int) < (q : Int) := by omega
      clear hy hi
      go_wp2_with fail
      refine (areRights_any A B (some ad) A2 n c k d q e0 q2 c2 ys _ HI.out hq2).mono ?_
      rcases hr : rigB n ys with _ | _
      · rintro e w2 ⟨rfl, b2⟩
        have C3 := Lib.hid (below_trans' HC.out b2)
        have HE := Lib.hid (planB_key (D := D) HP.out HY.out hr)
        clear hr b2 p0 p1 p2 hc
        go_wp2
        go_ret
        exact ⟨ret_bool HE.out.symm, C3.out⟩
      · rintro e w2 ⟨rfl, b2⟩
        have C3 := Lib.hid (below_trans' HC.out b2)
        have K3 := Lib.hid (HK.out.on b2)
        have H3 := Lib.hid (HX.out.on b2)
        have HA : Hid ((R.take (j + 1)).all (rigB n) = true) := Lib.hid (by
          obtain ⟨hl, e⟩ := List.getElem?_eq_some_iff.1 HY.out
          rw [List.take_succ_eq_append_getElem hl, List.all_append, hall.out, e]
          simp [hr])
        clear hr b2 p0 p1 p2 hc
        go_wp2
        go_roundw
        case rel => exact ⟨j + 1, by omega, by go_num, HA, K3, H3, C3⟩
        case measure => simp [intOf]; omega
    · have HE : Hid (planB P D R = true) := Lib.hid (by
        have h1 := hall.out
        rw [List.take_of_length_le (by have := HR.out; omega)] at h1
        unfold planB
        rw [HB.out, HR.out, HIN.out, HP.out, h1]; rfl)
      go_wp2
      go_ret
      exact ⟨ret_bool HE.out.symm, HC.out⟩

/-- three cells written -/
def put3 (w : World) (b : Nat) (x y z : Value) : World := ((w.setCell ⟨b, 0, none⟩ x).setCell ⟨b, 1, none⟩ y).setCell ⟨b, 2, none⟩ z
theorem Cell3.store {w : World} {b : Nat} {t : TypeId} {u v a : Value} (h : Cell3 w b t u v a) (x y z : Value) : Cell3 (put3 w b x y z) b t x y z := ((h.put0 x).put1 y).put2 z
theorem put3_grown (w : World) (b : Nat) (x y z : Value) : w.grownBy (put3 w b x y z) (some b) := grown_set (p := ⟨b, 2, none⟩) (grown_set (p := ⟨b, 1, none⟩) (grown_set (p := ⟨b, 0, none⟩) (World.grownBy.refl w _) rfl _) rfl _) rfl _

/-- the code of a plan and some keys -/
def shE (P : List Int) (D : List Bool) (R : List (List Int)) (xs : List Int) : Int := if planB P D R then (if withB 0 ((R.length : Int) - 1) xs then 0 else 2) else 1
theorem shE_none (P : List Int) (D : List Bool) (R : List (List Int)) : shE P D R [] = pE P D R := by unfold shE pE withB allIn; simp
theorem shE_one (P : List Int) (D : List Bool) (R : List (List Int)) (x : Int) : shE P D R [x] = pkE P D R x := by unfold shE pkE isKy withB allIn; simp
theorem shE_plan {P : List Int} {D : List Bool} {R : List (List Int)} {xs : List Int} (h : shE P D R xs = 0) : planB P D R = true := by
  unfold shE at h
  rcases hp : planB P D R with _ | _
  · rw [hp] at h; cases h
  · rfl

set_option maxHeartbeats 1000000 in
theorem sheetOf_any (A B V N : Option Addr) (n c k d q e0 r e1 : Nat) (P : List Int) (D : List Bool) (R : List (List Int)) (xs : List Int) (w : World) (h : Pl w A n B k V q P D R) (hx : Ints w w.heap.size N r xs) (hn : n ≤ 1048576) (hk : k ≤ 1048576) (hq : q + sizeL R ≤ 1048576) (hr : r ≤ 1048576) :
    Calls Try.prog 82 #[.agg #[.slice A n c, .slice B k d, .slice V q e0], .slice N r e1] w fun e w' => (∃ u v x, e = .returned (.tuple #[.agg #[u, v, x], .int .i64 (shE P D R xs)]) ∧ (shE P D R xs = 0 → u = .slice A n c ∧ v = .slice B k d ∧ x = .slice V q e0) ∧ (¬ shE P D R xs = 0 → u = .slice none 0 0 ∧ v = .slice none 0 0 ∧ x = .slice none 0 0)) ∧ Below w.heap.size w w' := by
  have c0 := ((Below.refl w.heap.size w).alloc (Nat.le_refl _) (.cells #[.slice A n c, .slice B k d, .slice V q e0] 30)).alloc (by simp) (.cells #[.slice none 0 0, .slice none 0 0, .slice none 0 0] 84)
  have h0 := Lib.hid (h.on c0)
  have x0 := Lib.hid (hx.on c0)
  have C0 := Lib.hid c0
  have K0 := Lib.hid ((Cell3.new w 30 (.slice A n c) (.slice B k d) (.slice V q e0)).alloc (.cells #[.slice none 0 0, .slice none 0 0, .slice none 0 0] 84))
  have J0 := Lib.hid (Cell3.new (w.alloc (.cells #[.slice A n c, .slice B k d, .slice V q e0] 30)) 84 (.slice none 0 0) (.slice none 0 0) (.slice none 0 0))
  rw [World.size_alloc] at J0
  have HR := Lib.hid h.r.len
  obtain ⟨p0, p1, p2⟩ := (Cell3.new w 30 (.slice A n c) (.slice B k d) (.slice V q e0)).cells
  clear c0 h hx
  go_enter Try.func82, Try.ntmps82
  go_wp2_with fail
  refine (isPlan_any A B V n c k d q e0 P D R _ h0.out hn hk hq).mono ?_
  rcases hb : planB P D R with _ | _
  · rintro e w1 ⟨rfl, b1⟩
    have C1 := Lib.hid (below_trans' C0.out b1)
    have J1 := Lib.hid (J0.out.on b1)
    have HE : Hid (shE P D R xs = 1) := Lib.hid (by unfold shE; rw [hb]; rfl)
    have f0 := J1.out.thawed 0
    have f1 := J1.out.thawed 1
    have f2 := J1.out.thawed 2
    obtain ⟨r0, r1, r2⟩ := J1.out.cells
    clear b1 hb p0 p1 p2
    go_wp2
    clear f0 f1 f2 r0 r1 r2
    have RR := (J1.out.store (.slice none 0 0) (.slice none 0 0) (.slice none 0 0)).cells
    have C2 := Lib.hid (below_grown C1.out (put3_grown w1 (w.heap.size + 1) (.slice none 0 0) (.slice none 0 0) (.slice none 0 0)) (fun g e => by injection e with e; omega))
    unfold put3 at RR C2
    refine bodyPost_ret (v := .tuple #[.agg #[.slice none 0 0, .slice none 0 0, .slice none 0 0], .int .i64 1]) (by simp [results, Try.results82, go_sem, RR.1, RR.2.1, RR.2.2]) rfl ⟨⟨_, _, _, by rw [HE.out], (fun h => by rw [HE.out] at h; cases h), fun _ => ⟨rfl, rfl, rfl⟩⟩, C2.out⟩
  rintro e w1 ⟨rfl, b1⟩
  have C1 := Lib.hid (below_trans' C0.out b1)
  have J1 := Lib.hid (J0.out.on b1)
  have X1 := Lib.hid (x0.out.on b1)
  have HB := Lib.hid hb
  have f0 := J1.out.thawed 0
  have f1 := J1.out.thawed 1
  have f2 := J1.out.thawed 2
  obtain ⟨r0, r1, r2⟩ := J1.out.cells
  obtain ⟨q0, q1, q2⟩ := (K0.out.on b1).cells
  clear b1 hb p0 p1 p2 C0 h0 x0 K0 J0
  rcases hin : withB 0 ((q : Int) - 1) xs with _ | _
  · have HE : Hid (shE P D R xs = 2) := Lib.hid (by unfold shE; rw [HB.out, HR.out, hin]; rfl)
    go_wp2_with (go_at_call 130; (with_reducible refine (areWithin_any _ _ _ xs _ _ _ X1.out hr).mono ?_); rw [hin]; rintro e w' ⟨rfl, rfl⟩)
    clear f0 f1 f2 r0 r1 r2 q0 q1 q2
    have RR := (J1.out.store (.slice none 0 0) (.slice none 0 0) (.slice none 0 0)).cells
    have C2 := Lib.hid (below_grown C1.out (put3_grown w1 (w.heap.size + 1) (.slice none 0 0) (.slice none 0 0) (.slice none 0 0)) (fun g e => by injection e with e; omega))
    unfold put3 at RR C2
    refine bodyPost_ret (v := .tuple #[.agg #[.slice none 0 0, .slice none 0 0, .slice none 0 0], .int .i64 2]) (by simp [results, Try.results82, go_sem, RR.1, RR.2.1, RR.2.2]) rfl ⟨⟨_, _, _, by rw [HE.out], (fun h => by rw [HE.out] at h; cases h), fun _ => ⟨rfl, rfl, rfl⟩⟩, C2.out⟩
  · have HE : Hid (shE P D R xs = 0) := Lib.hid (by unfold shE; rw [HB.out, HR.out, hin]; rfl)
    go_wp2_with (go_at_call 130; (with_reducible refine (areWithin_any _ _ _ xs _ _ _ X1.out hr).mono ?_); rw [hin]; rintro e w' ⟨rfl, rfl⟩)
    clear f0 f1 f2 r0 r1 r2 q0 q1 q2
    have RR := (J1.out.store (.slice A n c) (.slice B k d) (.slice V q e0)).cells
    have C2 := Lib.hid (below_grown C1.out (put3_grown w1 (w.heap.size + 1) (.slice A n c) (.slice B k d) (.slice V q e0)) (fun g e => by injection e with e; omega))
    unfold put3 at RR C2
    refine bodyPost_ret (v := .tuple #[.agg #[.slice A n c, .slice B k d, .slice V q e0], .int .i64 0]) (by simp [results, Try.results82, go_sem, RR.1, RR.2.1, RR.2.2]) rfl ⟨⟨_, _, _, by rw [HE.out], fun _ => ⟨rfl, rfl, rfl⟩, fun h => absurd HE.out h⟩, C2.out⟩

end Go.Proofs.Ytnadcjclihflcaa
