/- AreApart of the program and of the model: contracts, and its law. -/
import Derived.Test.YtpabccgndhmcdaaSide
namespace Go.Proofs.Ytpabccgndhmcdaa
open Go.RowKit

/-- is the i-th list at least d away from each of the first k -/
def awayB (d : Int) (yss : List (List Int)) (i k : Nat) : Bool := (List.range k).all (fun j => decide (d ≤ diffI (yss.getD i []) (yss.getD j [])))
/-- are each two of the first k lists at least d apart -/
def apartB (d : Int) (yss : List (List Int)) (k : Nat) : Bool := (List.range k).all (fun i => awayB d yss i i)
theorem away_step (d : Int) (yss : List (List Int)) (i k : Nat) : awayB d yss i (k + 1) = (awayB d yss i k && decide (d ≤ diffI (yss.getD i []) (yss.getD k []))) := by
  unfold awayB
  rw [List.range_succ, List.all_append]
  simp
theorem apart_step (d : Int) (yss : List (List Int)) (k : Nat) : apartB d yss (k + 1) = (apartB d yss k && awayB d yss k k) := by
  unfold apartB
  rw [List.range_succ, List.all_append]
  simp
theorem away_no {d : Int} {yss : List (List Int)} {i j k : Nat} (hj : j < k) (h : diffI (yss.getD i []) (yss.getD j []) < d) : awayB d yss i k = false := by
  unfold awayB
  rw [List.all_eq_false]
  exact ⟨j, List.mem_range.2 hj, by simp; simpa using h⟩
theorem apart_no {d : Int} {yss : List (List Int)} {i n : Nat} (hi : i < n) (h : awayB d yss i i = false) : apartB d yss n = false := by
  unfold apartB
  rw [List.all_eq_false]
  exact ⟨i, List.mem_range.2 hi, by simp [h]⟩

def allB (s v : Int) (yss : List (List Int)) : Bool := yss.all (sideB s v)
def apE (s v d : Int) (yss : List (List Int)) : Int := if sdB s v d then (if allB s v yss then (if yss.length ≤ 60 then 0 else 3) else 1) else 2
def apV (s v d : Int) (yss : List (List Int)) : Bool := if apE s v d yss = 0 then apartB d yss yss.length else false
theorem ap_no {s v d : Int} {yss : List (List Int)} (h : sdB s v d = false) : apV s v d yss = false ∧ apE s v d yss = 2 := by simp [apV, apE, h]
theorem ap_bad {s v d : Int} {yss : List (List Int)} (h : sdB s v d = true) (h2 : allB s v yss = false) : apV s v d yss = false ∧ apE s v d yss = 1 := by simp [apV, apE, h, h2]
theorem ap_long {s v d : Int} {yss : List (List Int)} {n : Nat} (hl : yss.length = n) (h : sdB s v d = true) (h2 : allB s v yss = true) (h3 : ¬ n ≤ 60) : apV s v d yss = false ∧ apE s v d yss = 3 := by subst hl; simp [apV, apE, h, h2, h3]
theorem ap_yes {s v d : Int} {yss : List (List Int)} {n : Nat} (hl : yss.length = n) (h : sdB s v d = true) (h2 : allB s v yss = true) (h3 : n ≤ 60) : apV s v d yss = apartB d yss n ∧ apE s v d yss = 0 := by subst hl; simp [apV, apE, h, h2, h3]
theorem all_len {s v : Int} {yss : List (List Int)} {j : Nat} {ys : List Int} (h : allB s v yss = true) (hj : yss[j]? = some ys) : (ys.length : Int) = s :=
  (side_true (List.all_eq_true.1 h ys (List.mem_of_getElem? hj))).1


theorem ints_drew {w : World} {a b n : Nat} {A : Option Addr} {xs : List Int} (h : Ints (w.drewN a) (w.drewN a).heap.size A n xs) : Ints (w.drewN b) (w.drewN b).heap.size A n xs := h
theorem ret_bi {a b : Bool} {c d : Int} (h : a = b) (h2 : c = d) : Ending.returned (.tuple #[.bool a, .int .i64 c]) = .returned (.tuple #[.bool b, .int .i64 d]) := by rw [h, h2]

set_option maxHeartbeats 1000000 in
theorem areApart_any (s v d : Int) (V : Option Addr) (n c : Nat) (yss : List (List Int)) (w : World) (h : Sets w w.heap.size V n yss) (hn : n ≤ 1048576) (hc : n ≤ c) (hcm : c ≤ 9223372036854775807) :
    Calls Try.prog 26 #[.int .i64 s, .int .i64 v, .int .i64 d, .slice V n c] w fun e w' => e = .returned (.tuple #[.bool (apV s v d yss), .int .i64 (apE s v d yss)]) ∧ Below w.heap.size w w' := by
  have b := below_box w (.cells #[.int .i64 s, .int .i64 v] 66)
  have cc := cell_two w (.int .i64 s) (.int .i64 v) 66
  have HL := Lib.hid h.len
  rcases hs : sdB s v d with _ | _
  · rw [(ap_no hs).1, (ap_no hs).2]
    go_enter Try.func26, Try.ntmps26
    go_wp2_with fail
    refine (hasDistance_any s v d _).mono ?_
    rw [hs]
    rintro e w1 ⟨rfl, b1⟩
    have b2 := below_trans' b b1
    clear b b1 cc
    go_wp2
    go_ret2
    exact ⟨rfl, b2⟩
  have HS := Lib.hid hs
  have HY := Lib.hid (sd_true hs).1
  clear hs
  rcases ha : allB s v yss with _ | _
  · rw [(ap_bad HS.out ha).1, (ap_bad HS.out ha).2]
    go_enter Try.func26, Try.ntmps26
    go_wp2_with fail
    refine (hasDistance_any s v d _).mono ?_
    rw [HS.out]
    rintro e w1 ⟨rfl, b1⟩
    obtain ⟨c0, c1⟩ := two_on cc (by simp) b1
    have b2 := below_trans' b b1
    clear b b1 cc
    go_wp2_with fail
    refine (hasCodes_any s v _ n _ yss _ (h.on b2) hn HY.out).mono ?_
    rw [show yss.all (sideB s v) = false from ha]
    rintro e w2 ⟨rfl, b3⟩
    have b4 := below_trans' b2 b3
    clear b2 b3
    go_wp2
    go_ret2
    exact ⟨rfl, b4⟩
  have HA := Lib.hid ha
  clear ha
  by_cases h60 : ¬ n ≤ 60
  · rw [(ap_long HL.out HS.out HA.out h60).1, (ap_long HL.out HS.out HA.out h60).2]
    go_enter Try.func26, Try.ntmps26
    go_wp2_with fail
    refine (hasDistance_any s v d _).mono ?_
    rw [HS.out]
    rintro e w1 ⟨rfl, b1⟩
    obtain ⟨c0, c1⟩ := two_on cc (by simp) b1
    have b2 := below_trans' b b1
    clear b b1 cc
    go_wp2_with fail
    refine (hasCodes_any s v _ n _ yss _ (h.on b2) hn HY.out).mono ?_
    rw [show yss.all (sideB s v) = true from HA.out]
    rintro e w2 ⟨rfl, b3⟩
    have b4 := below_trans' b2 b3
    clear b2 b3
    go_wp2
    go_ret2
    exact ⟨rfl, b4⟩
  have h60 := Decidable.not_not.1 h60
  rw [(ap_yes HL.out HS.out HA.out h60).1, (ap_yes HL.out HS.out HA.out h60).2]
  go_enter Try.func26, Try.ntmps26
  go_wp2_with fail
  refine (hasDistance_any s v d _).mono ?_
  rw [HS.out]
  rintro e w1 ⟨rfl, b1⟩
  obtain ⟨c0, c1⟩ := two_on cc (by simp) b1
  have b2 := below_trans' b b1
  clear b b1 cc
  go_wp2_with fail
  refine (hasCodes_any s v _ n _ yss _ (h.on b2) hn HY.out).mono ?_
  rw [show yss.all (sideB s v) = true from HA.out]
  rintro e w2 ⟨rfl, b3⟩
  have B4 := Lib.hid (below_trans' b2 b3)
  have S4 := Lib.hid (h.on B4.out)
  clear b2 b3 h c0 c1
  go_wp2
  go_loopw [31] (fun i wr => ∃ k q : Nat, k ≤ n ∧ i = .int .i64 k ∧ wr = w2.drewN q ∧ Hid (apartB d yss k = true)) (fun i _ => n - (intOf i).toNat)
  case atStart => exact ⟨0, 0, Nat.zero_le _, rfl, rfl, Lib.hid rfl⟩
  case round =>
    obtain ⟨k, q, hk, rfl, rfl, hall⟩ := hrel
    by_cases hlt : k < n
    · obtain ⟨ad, xs, A, p, cp, rfl, _, hx, hcell, hi, hpc, hpm⟩ := (S4.out.drewN q).at_ hlt
      have HX := Lib.hid hx
      have HI := Lib.hid hi
      have HP := Lib.hid (And.intro hi.len (all_len HA.out hx))
      clear hx hi
      obtain ⟨wo, rfl⟩ : ∃ wo, wo = w2.drewN q := ⟨_, rfl⟩
      go_wp2
      go_loopw [40] (fun i wr => ∃ j r : Nat, j ≤ k ∧ i = .int .i64 j ∧ wr = w2.drewN r ∧ Hid (awayB d yss k j = true)) (fun i _ => k - (intOf i).toNat)
      case atStart => exact ⟨0, q, Nat.zero_le _, rfl, rfl, Lib.hid rfl⟩
      case round =>
        obtain ⟨j, r, hj, rfl, rfl, haw⟩ := hrel
        by_cases hjk : j < k
        · obtain ⟨ad', ys, A', p', cp', e', _, hy, hcell', hi', hpc', hpm'⟩ := (S4.out.drewN r).at_ (show j < n by omega)
          obtain rfl : ad = ad' := by injection e'
          have HYs := Lib.hid hy
          obtain rfl : p' = p := by have h1 := all_len HA.out hy; have h2 := hi'.len; have h3 := HP.out; omega
          have HQ : Hid (diffI (yss.getD k []) (yss.getD j []) = diffI xs ys) := Lib.hid (by rw [getD_list HX.out, getD_list HYs.out])
          clear hy e'
          by_cases hd : diffI xs ys < d
          · have HN : Hid (apartB d yss n = false) := Lib.hid (apart_no hlt (away_no hjk (by rw [HQ.out]; exact hd)))
            go_wp2_with (go_at_call 56; refine (cutDifference_any _ _ _ _ _ xs ys _ (ints_drew HI.out) hi' (by have h1 := HP.out; have h2 := sys_true HY.out; omega)).mono ?_; rintro e w3 ⟨rfl, q3, rfl⟩)
            go_ret2
            exact ⟨ret_bi HN.out.symm rfl, below_drewN B4.out _⟩
          · have HK : Hid (awayB d yss k (j + 1) = true) := Lib.hid (by rw [away_step, haw.out, HQ.out]; simp; omega)
            go_wp2_with (go_at_call 56; refine (cutDifference_any _ _ _ _ _ xs ys _ (ints_drew HI.out) hi' (by have h1 := HP.out; have h2 := sys_true HY.out; omega)).mono ?_; rintro e w3 ⟨rfl, q3, rfl⟩)
            go_roundw
            case rel => exact ⟨j + 1, _, by omega, by go_num, rfl, HK⟩
            case measure => simp [intOf]; omega
        · have HK : Hid (apartB d yss (k + 1) = true) := Lib.hid (by
            obtain rfl : j = k := by omega
            rw [apart_step, hall.out, haw.out]; rfl)
          go_wp2
          go_roundw
          case rel => exact ⟨k + 1, r, by omega, by go_num, rfl, HK⟩
          case measure => simp [intOf]; omega
    · have HE : Hid (apartB d yss n = true) := Lib.hid (by
        obtain rfl : k = n := by omega
        exact hall.out)
      go_wp2
      go_ret2
      exact ⟨ret_bi HE.out.symm rfl, below_drewN B4.out _⟩

/-- is a list at least d away from each of some -/
def farB (d : Int) (yss : List (List Int)) (xs : List Int) : Bool := yss.all (fun ys => decide (d ≤ diffI ys xs))
theorem far_no {d : Int} {yss : List (List Int)} {j : Nat} {xs ys : List Int} (hj : yss[j]? = some ys) (h : diffI ys xs < d) : farB d yss xs = false := by
  unfold farB
  rw [List.all_eq_false]
  exact ⟨ys, List.mem_of_getElem? hj, by simpa using h⟩
theorem far_yes {d : Int} {yss : List (List Int)} {n : Nat} {xs : List Int} (hl : yss.length = n) (h : ∀ j ys, j < n → yss[j]? = some ys → d ≤ diffI ys xs) : farB d yss xs = true := by
  unfold farB
  rw [List.all_eq_true]
  intro ys hys
  obtain ⟨j, hj⟩ := List.getElem?_of_mem hys
  simpa using h j ys (by have := (List.getElem?_eq_some_iff.1 hj).1; omega) hj
theorem Sets.first {w : World} {B n k : Nat} {V : Option Addr} {yss : List (List Int)} (h : Sets w B V n yss) (hk : k ≤ n) : Sets w B V k (yss.take k) := by
  refine ⟨by rw [List.length_take, h.len]; omega, fun h0 => ?_⟩
  obtain ⟨ad, e, hb, hc⟩ := h.2 (by omega)
  refine ⟨ad, e, hb, fun j ys hj => hc j ys ?_⟩
  rw [List.getElem?_take] at hj
  split at hj
  · exact hj
  · cases hj
theorem away_far {s v d : Int} {yss : List (List Int)} {k : Nat} {xs : List Int} (ha : allB s v yss = true) (hx : yss[k]? = some xs) : awayB d yss k k = farB d (yss.take k) xs := by
  have hk := (List.getElem?_eq_some_iff.1 hx).1
  have lx := all_len ha hx
  have hg : ∀ j, j < k → ∃ ys, yss[j]? = some ys ∧ (yss.take k)[j]? = some ys ∧ diffI (yss.getD k []) (yss.getD j []) = diffI ys xs := by
    intro j hj
    have hy : yss[j]? = some (yss[j]'(by omega)) := List.getElem?_eq_getElem _
    have ly := all_len ha hy
    refine ⟨_, hy, by rw [List.getElem?_take, if_pos hj]; exact hy, ?_⟩
    rw [getD_list hx, getD_list hy]
    exact diffI_comm (by omega)
  rw [Bool.eq_iff_iff]
  unfold awayB farB
  rw [List.all_eq_true, List.all_eq_true]
  constructor
  · intro h ys hys
    obtain ⟨j, hj⟩ := List.getElem?_of_mem hys
    have hjk : j < k := by have := (List.getElem?_eq_some_iff.1 hj).1; rw [List.length_take] at this; omega
    obtain ⟨zs, _, h2, h3⟩ := hg j hjk
    have := h j (List.mem_range.2 hjk)
    rw [h3] at this
    rw [hj] at h2; cases h2; exact this
  · intro h j hj
    obtain ⟨zs, _, h2, h3⟩ := hg j (List.mem_range.1 hj)
    have := h zs (List.mem_of_getElem? h2)
    rw [h3]; exact this
theorem l07Apart_any (d : Int) (V : Option Addr) (n c : Nat) (yss : List (List Int)) (A : Option Addr) (p cp : Nat) (xs : List Int) (w : World) (h : Sets w w.heap.size V n yss) (hn : n ≤ 1048576) (hi : Ints w w.heap.size A p xs) (hp : p ≤ 1048576)
    (hall : ∀ (j : Nat) (ys : List Int), yss[j]? = some ys → ys.length = p) :
    Calls Try.prog 69 #[.slice V n c, .slice A p cp, .int .i64 d] w fun e w' => e = .returned (.bool (farB d yss xs)) ∧ ∃ q, w' = w.drewN q := by
  have HL := Lib.hid h.len
  have HA := Lib.hid hall
  have HS := Lib.hid h
  have HI := Lib.hid hi
  clear hall h hi
  go_enter Try.func69, Try.ntmps69
  go_wp2
  go_loopw [7] (fun i wr => ∃ k q : Nat, k ≤ n ∧ i = .int .i64 k ∧ wr = w.drewN q ∧ Hid (∀ j ys, j < k → yss[j]? = some ys → d ≤ diffI ys xs)) (fun i _ => n - (intOf i).toNat)
  case atStart => exact ⟨0, 0, Nat.zero_le _, rfl, rfl, Lib.hid (fun j _ hj => absurd hj (by omega))⟩
  case round =>
    obtain ⟨k, q, hk, rfl, rfl, hf⟩ := hrel
    by_cases hlt : k < n
    · obtain ⟨ad, ys, A', p', cp', rfl, _, hy, hc, hi', _, _⟩ := (HS.out.drewN q).at_ hlt
      have HY := Lib.hid hy
      obtain rfl : p' = p := by have h1 := hi'.len; have h2 := HA.out _ _ hy; omega
      have hi2 := ints_drew (b := q) (ints_drewN HI.out 0)
      clear hy
      by_cases hd : diffI ys xs < d
      · have HN := Lib.hid (far_no HY.out hd)
        go_wp2_with (go_at_call 60; refine (l03Difference_any _ _ _ _ _ ys xs _ hi' hi2 hp).mono ?_; rintro e w3 ⟨rfl, q3, rfl⟩)
        go_ret
        exact ⟨ret_bool HN.out.symm, _, rfl⟩
      · go_wp2_with (go_at_call 60; refine (l03Difference_any _ _ _ _ _ ys xs _ hi' hi2 hp).mono ?_; rintro e w3 ⟨rfl, q3, rfl⟩)
        go_roundw
        case rel => exact ⟨k + 1, _, by omega, by go_num, rfl, Lib.hid (fun j zs hj hz => by
          rcases Nat.lt_or_ge j k with h1 | h1
          · exact hf.out j zs h1 hz
          · obtain rfl : j = k := by omega
            rw [HY.out] at hz; cases hz; omega)⟩
        case measure => simp [intOf]; omega
    · have HE := Lib.hid (far_yes HL.out (fun j ys hj => hf.out j ys (by omega)))
      go_wp2
      go_ret
      exact ⟨ret_bool HE.out.symm, q, rfl⟩

theorem l07Apart_at (b : Bool) (d : Int) (V : Option Addr) (n c : Nat) (yss : List (List Int)) (A : Option Addr) (p cp : Nat) (xs : List Int) (w : World) (hb : farB d yss xs = b) (h : Sets w w.heap.size V n yss) (hn : n ≤ 1048576) (hi : Ints w w.heap.size A p xs) (hp : p ≤ 1048576)
    (hall : ∀ (j : Nat) (ys : List Int), yss[j]? = some ys → ys.length = p) :
    Calls Try.prog 69 #[.slice V n c, .slice A p cp, .int .i64 d] w fun e w' => e = .returned (.bool b) ∧ ∃ q, w' = w.drewN q := by
  subst hb; exact l07Apart_any d V n c yss A p cp xs w h hn hi hp hall

set_option maxHeartbeats 1000000 in
theorem specAreApart_any (s v d : Int) (V : Option Addr) (n c : Nat) (yss : List (List Int)) (w : World) (h : Sets w w.heap.size V n yss) (hn : n + sizeL yss ≤ 1048576) (hc : n ≤ c) (_ : c ≤ 9223372036854775807) :
    Calls Try.prog 35 #[.int .i64 s, .int .i64 v, .int .i64 d, .slice V n c] w fun e w' => e = .returned (.tuple #[.bool (apV s v d yss), .int .i64 (apE s v d yss)]) ∧ ∃ q, w' = w.drewN q := by
  have HL := Lib.hid h.len
  have HZ := Lib.hid hn
  have hn1 : n ≤ 1048576 := by omega
  rcases hs : sdB s v d with _ | _
  · rw [(ap_no hs).1, (ap_no hs).2]
    go_enter Try.func35, Try.ntmps35
    go_wp2_with (go_at_call 57; refine (l07Distance_any _ _ _ _).mono ?_; rw [hs]; rintro e w' ⟨rfl, rfl⟩)
    go_ret2
    exact ⟨rfl, 0, rfl⟩
  have HS := Lib.hid hs
  have HY := Lib.hid (sd_true hs).1
  have HW := Lib.hid h
  clear hs h hn
  go_enter Try.func35, Try.ntmps35
  go_wp2_with (go_at_call 57; refine (l07Distance_any _ _ _ _).mono ?_; rw [HS.out]; rintro e w' ⟨rfl, rfl⟩)
  go_loop [10] (fun i => ∃ k : Nat, k ≤ n ∧ i = .int .i64 k ∧ Hid (∀ j ys, j < k → yss[j]? = some ys → sideB s v ys = true)) (fun i => n - (intOf i).toNat)
  case atStart => exact ⟨0, Nat.zero_le _, rfl, Lib.hid (fun j _ hj => absurd hj (by omega))⟩
  case round =>
    obtain ⟨k, hk, rfl, hall⟩ := hrel
    by_cases hlt : k < n
    · obtain ⟨ad, ys, A, q, cc, rfl, _, hy, hcell, hi, hqc, hqm⟩ := HW.out.at_ hlt
      have HYs := Lib.hid hy
      have hq1 : q ≤ 1048576 := by have h1 := fits_at HZ.out hy; have h2 := hi.len; omega
      clear hy
      rcases hin : sideB s v ys with _ | _
      · have HN : Hid (allB s v yss = false) := Lib.hid (by
          unfold allB
          rw [List.all_eq_false]
          exact ⟨ys, List.mem_of_getElem? HYs.out, by rw [hin]; simp⟩)
        go_wp2_with (go_at_call 58; refine (l07Code_any _ _ _ _ _ ys _ hi hq1 HY.out).mono ?_; rw [hin]; rintro e w' ⟨rfl, rfl⟩)
        go_ret2
        exact ⟨ret_bi (ap_bad HS.out HN.out).1.symm (ap_bad HS.out HN.out).2.symm, 0, rfl⟩
      · go_wp2_with (go_at_call 58; refine (l07Code_any _ _ _ _ _ ys _ hi hq1 HY.out).mono ?_; rw [hin]; rintro e w' ⟨rfl, rfl⟩)
        go_round
        case rel => exact ⟨k + 1, by omega, by go_num, Lib.hid (fun j zs hj hz => by
          rcases Nat.lt_or_ge j k with h1 | h1
          · exact hall.out j zs h1 hz
          · obtain rfl : j = k := by omega
            rw [HYs.out] at hz; cases hz; exact hin)⟩
        case measure => simp [intOf]; omega
    · have HA : Hid (allB s v yss = true) := Lib.hid (by
        unfold allB
        rw [List.all_eq_true]
        intro ys hys
        obtain ⟨j, hj⟩ := List.getElem?_of_mem hys
        exact hall.out j ys (by have := (List.getElem?_eq_some_iff.1 hj).1; have := HL.out; omega) hj)
      clear hall
      have hk := Lib.hid hk
      by_cases h60 : ¬ n ≤ 60
      · have HE := Lib.hid (ap_long HL.out HS.out HA.out h60)
        go_wp2
        go_ret2
        exact ⟨ret_bi HE.out.1.symm HE.out.2.symm, 0, rfl⟩
      have h60 := Decidable.not_not.1 h60
      have HE := Lib.hid (ap_yes HL.out HS.out HA.out h60)
      go_wp2
      go_loopw [11] (fun i wr => ∃ k q : Nat, k ≤ n ∧ i = .int .i64 k ∧ wr = w.drewN q ∧ Hid (apartB d yss k = true)) (fun i _ => n - (intOf i).toNat)
      case atStart => exact ⟨0, 0, Nat.zero_le _, rfl, rfl, Lib.hid rfl⟩
      case round =>
        obtain ⟨k, q, hk, rfl, rfl, hap⟩ := hrel
        by_cases hlt : k < n
        · obtain ⟨ad, xs, A, p, cp, rfl, _, hx, hcell, hi, hpc, hpm⟩ := HW.out.at_ hlt
          have HX := Lib.hid hx
          have hp1 : p ≤ 1048576 := by have h1 := fits_at HZ.out hx; have h2 := hi.len; omega
          have HQ := Lib.hid (away_far (d := d) HA.out hx)
          have HP : Hid (∀ (j : Nat) (ys : List Int), (yss.take k)[j]? = some ys → ys.length = p) := Lib.hid (by
            intro j ys hj
            rw [List.getElem?_take] at hj
            split at hj
            · have h1 := all_len HA.out hj; have h2 := all_len HA.out HX.out; have h3 := hi.len; omega
            · cases hj)
          clear hx
          have k0 : (0 : Int) ≤ (k : Int) := by omega
          have k1 : (k : Int) < (n : Int) := by omega
          have k2 : (k : Int) ≤ (c : Int) := by omega
          rcases hfar : farB d (yss.take k) xs with _ | _
          · have HN : Hid (apartB d yss n = false) := Lib.hid (apart_no hlt (by rw [HQ.out, hfar]))
            go_wp2
            go_quiet ((go_at_call 69; exact quiet_add_on (l07Apart_at _ d _ k c (yss.take k) _ p cp xs _ hfar ((HW.out.drewN _).first (by omega)) (by omega) (ints_drewN hi _) hp1 HP.out)))
            go_wp2
            go_ret2
            exact ⟨ret_bi (by rw [HE.out.1, HN.out]) HE.out.2.symm, _, World.drewN_drewN _ _ _⟩
          · have HK : Hid (apartB d yss (k + 1) = true) := Lib.hid (by rw [apart_step, hap.out, HQ.out, hfar]; rfl)
            go_wp2
            go_quiet ((go_at_call 69; exact quiet_add_on (l07Apart_at _ d _ k c (yss.take k) _ p cp xs _ hfar ((HW.out.drewN _).first (by omega)) (by omega) (ints_drewN hi _) hp1 HP.out)))
            go_wp2
            go_roundw
            case rel => exact ⟨k + 1, _, by omega, by go_num, rfl, HK⟩
            case measure => simp [intOf]; omega
        · have HF : Hid (apartB d yss n = true) := Lib.hid (by
            obtain rfl : k = n := by omega
            exact hap.out)
          go_wp2
          go_ret2
          exact ⟨ret_bi (by rw [HE.out.1, HF.out]) HE.out.2.symm, q, rfl⟩

set_option maxHeartbeats 1000000 in
theorem lawAreApart_any (s v d : Int) (V : Option Addr) (n c : Nat) (yss : List (List Int)) (w : World) (h : Sets w w.heap.size V n yss) (hcm : n ≤ 9223372036854775807) :
    Calls Try.prog 12 #[.int .i64 s, .int .i64 v, .int .i64 d, .slice V n c] w fun e w' => e = .returned (.bool true) ∧ Below w.heap.size w w' := by
  have H0 := Lib.hid h
  have HL := Lib.hid h.len
  have d1 : (apV s v d yss != apV s v d yss) = false := by simp
  have d2 : (apE s v d yss != apE s v d yss) = false := by simp
  clear h
  go_enter Try.func12, Try.ntmps12
  go_wp2_with fail
  refine (szLists_any _ _ _ yss 1048576 _ H0.out (by omega) (by omega) hcm).mono ?_
  rintro e w0 ⟨⟨r, rfl, hr⟩, rfl⟩
  rcases hr with rfl | ⟨hr, hr0⟩
  · go_wp2
    go_ret
    exact ⟨rfl, Below.refl _ _⟩
  have hneg : ¬ r < 0 := by omega
  have HN : Hid (n + sizeL yss ≤ 1048576) := Lib.hid (by omega)
  clear hr hr0
  go_wp2_with fail
  refine (toLists_any _ _ _ yss _ H0.out HN.out).mono ?_
  rintro e w1 ⟨V1, n1, c1, gs1, rfl, R1, z1, y1, b1⟩
  obtain rfl : n = n1 := (R1.len.symm.trans HL.out).symm
  have S1 := Lib.hid R1.sets
  have H1 := Lib.hid (H0.out.on b1)
  clear R1 H0
  go_wp2_with fail
  refine (specAreApart_any s v d _ _ _ yss _ S1.out HN.out z1 y1).mono ?_
  rintro e w2 ⟨rfl, q, rfl⟩
  have b2 := below_drewN b1 q
  have H2 := Lib.hid (H1.out.drewN q)
  clear b1 H1 S1
  go_wp2_with fail
  refine (toLists_any _ _ _ yss _ H2.out HN.out).mono ?_
  rintro e w3 ⟨V3, n3, c3, gs3, rfl, R3, z3, y3, b3⟩
  obtain rfl : n = n3 := (R3.len.symm.trans HL.out).symm
  have S3 := Lib.hid R3.sets
  have H3 := Lib.hid (H2.out.on b3)
  have b3' := below_trans' b2 b3
  clear R3 H2 b2 b3
  go_wp2_with fail
  refine (areApart_any s v d _ _ _ yss _ S3.out (by have := HN.out; omega) z3 y3).mono ?_
  rintro e w4 ⟨rfl, b4⟩
  have S4 := Lib.hid (S3.out.on b4)
  have H4 := Lib.hid (H3.out.on b4)
  have b4' := below_trans' b3' b4
  clear S3 H3 b3' b4
  go_wp2_with fail
  refine (toLists_any _ _ _ yss _ H4.out HN.out).mono ?_
  rintro e w5 ⟨V5, n5, c5, gs5, rfl, R5, z5, y5, b5⟩
  obtain rfl : n = n5 := (R5.len.symm.trans HL.out).symm
  have S5 := Lib.hid R5.sets
  have T5 := Lib.hid (S4.out.on b5)
  have b5' := below_trans' b4' b5
  clear R5 H4 S4 b4' b5
  go_wp2_with fail
  refine (eqSets_true _ _ _ _ _ yss _ T5.out S5.out HN.out).mono ?_
  rintro e w6 ⟨rfl, q6, rfl⟩
  go_wp2
  go_ret
  exact ⟨rfl, below_drewN b5' q6⟩

end Go.Proofs.Ytpabccgndhmcdaa
