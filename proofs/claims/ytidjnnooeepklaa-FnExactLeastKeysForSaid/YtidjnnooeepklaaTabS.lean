/- Access tables of the model: rows, IsTable, the code of a key. -/
import Derived.Test.YtidjnnooeepklaaTabM
import Derived.Test.YtidjnnooeepklaaSets
import Derived.Test.YtidjnnooeepklaaSameS
namespace Go.Proofs.Ytidjnnooeepklaa
open Go Go.RowKit

theorem addr_zero (a : Addr) : a.add 0 = a := by simp [Addr.add]
theorem ints_at {w : World} {B n k : Nat} {A : Option Addr} {xs : List Int} (h : Ints w B A n xs) (hk : k < n) : ∃ ad, A = some ad ∧ ad.block < B ∧ xs[k]? = some (xs.getD k 0) ∧ w.cell? (ad.add k) = some (.int .i64 (xs.getD k 0)) := by
  obtain ⟨ad, v, e, hb, hv, hc⟩ := h.at_ hk
  have : xs.getD k 0 = v := by rw [List.getD_eq_getElem?_getD, hv]; rfl
  exact ⟨ad, e, hb, by rw [this]; exact hv, by rw [this]; exact hc⟩
/-- a row of a table that lies in memory -/
theorem tab_at {w : World} {B n m i : Nat} {V : Option Addr} {T : List (List Int)} (h : Sets w B V n T) (hT : tabB T = true) (hm : colT T = m) (hi : i < n) :
    ∃ ad A c, V = some ad ∧ ad.block < B ∧ T[i]? = some (getR T i) ∧ w.cell? (ad.add i) = some (.slice A m c) ∧ Ints w B A m (getR T i) ∧ m ≤ c ∧ c ≤ 9223372036854775807 := by
  obtain ⟨ad, ys, A, q, c, e, hb, hy, hc, hI, h1, h2⟩ := h.at_ hi
  have hg : getR T i = ys := by unfold getR; rw [List.getD_eq_getElem?_getD, hy]; rfl
  obtain rfl : q = m := by rw [← hI.len, ← hm]; exact ((tabB_true hT).2.2 i ys hy).1
  rw [hg]
  exact ⟨ad, A, c, e, hb, hy, hc, hI, h1, h2⟩
theorem tab_row {T : List (List Int)} {m i n : Nat} (hT : tabB T = true) (hm : colT T = m) (hl : T.length = n) (hi : i < n) : rowB m (getR T i) = true := by
  have hy : T[i]? = some T[i] := List.getElem?_eq_getElem (by omega)
  have hg : getR T i = T[i] := by unfold getR; rw [List.getD_eq_getElem?_getD, hy]; rfl
  obtain ⟨h1, h2⟩ := (tabB_true hT).2.2 i _ hy
  unfold rowB
  rw [hg, h1, h2, hm]; simp

def inK (xs ys : List Int) (k : Nat) : Bool := (List.range k).all fun k => decide (xs.getD k 0 ≤ ys.getD k 0)
theorem inK_step (xs ys : List Int) (k : Nat) : inK xs ys (k + 1) = (inK xs ys k && decide (xs.getD k 0 ≤ ys.getD k 0)) := by
  unfold inK; rw [List.range_succ, List.all_append]; simp
theorem inK_no {xs ys : List Int} {j k : Nat} (hj : j < k) (h : ¬ xs.getD j 0 ≤ ys.getD j 0) : inK xs ys k = false := by
  unfold inK
  rw [List.all_eq_false]
  exact ⟨j, List.mem_range.2 hj, by simpa using h⟩
theorem inR_K {xs ys : List Int} {n : Nat} (hl : xs.length = n) : inR xs ys = inK xs ys n := by subst hl; rfl

theorem l11In_any (A A' : Option Addr) (m c c' : Nat) (xs ys : List Int) (w : World) (h : Ints w w.heap.size A m xs) (h' : Ints w w.heap.size A' m ys) (hm : m ≤ 1048576) :
    Calls Try.prog 84 #[.slice A m c, .slice A' m c'] w fun e w' => e = .returned (.bool (inR xs ys)) ∧ ∃ q, w' = w.drewN q := by
  have HK := Lib.hid (inR_K (ys := ys) h.len)
  go_enter Try.func84, Try.ntmps84
  go_wp2
  go_loopw [5] (fun i wr => ∃ k q : Nat, k ≤ m ∧ i = .int .i64 k ∧ Hid (inK xs ys k = true) ∧ wr = w.drewN q) (fun i _ => m - (intOf i).toNat)
  case atStart => exact ⟨0, 0, Nat.zero_le _, rfl, Lib.hid rfl, rfl⟩
  case round =>
    obtain ⟨k, q, hk, rfl, hs, rfl⟩ := hrel
    by_cases hlt : k < m
    · obtain ⟨ad, rfl, hab, _, hc⟩ := ints_at h hlt
      obtain ⟨ad', rfl, hab', _, hc'⟩ := ints_at h' hlt
      have i0 : (0 : Int) ≤ (k : Int) := by omega
      have i1 : (k : Int) < (m : Int) := by omega
      have HST := Lib.hid (inK_step xs ys k)
      have HNO := Lib.hid (fun e => inK_no (xs := xs) (ys := ys) hlt e)
      generalize xs.getD k 0 = v at *
      generalize ys.getD k 0 = v' at *
      by_cases e : v ≤ v'
      · have HS : Hid (inK xs ys (k + 1) = true) := Lib.hid (by rw [HST.out, hs.out]; simp [e])
        clear HST HNO
        go_wp2
        go_quiet (fail)
        go_wp2
        go_roundw
        case rel => exact ⟨k + 1, _, by omega, by go_num, HS, rfl⟩
        case measure => simp [intOf]; omega
      · have HE := Lib.hid (HNO.out e)
        have e2 : v' < v := by omega
        clear e HST HNO
        go_wp2
        go_quiet (fail)
        go_wp2
        go_ret
        exact ⟨ret_bool (by rw [HK.out, HE.out]), _, World.drewN_drewN _ _ _⟩
    · obtain rfl : k = m := by omega
      go_wp2
      go_ret
      exact ⟨ret_bool (by rw [HK.out, hs.out]), q, rfl⟩

def GivesRow (w : World) (xs : List Int) (e : Ending) (w' : World) : Prop :=
  ∃ A n c, e = .returned (.slice A n c) ∧ Own w' w.heap.size w'.heap.size A n xs ∧ n ≤ 1048576 ∧ n ≤ c ∧ c ≤ 9223372036854775807 ∧ Below w.heap.size w w'
def comP (xs ys : List Int) (k : Nat) : Bool := decide (xs.getD k 0 = 1) && decide (ys.getD k 0 = 1)
theorem comR_where {xs ys : List Int} {n : Nat} (hl : xs.length = n) : comR xs ys = whereL (comP xs ys) n := by subst hl; rfl

set_option maxRecDepth 100000 in
set_option maxHeartbeats 4000000 in
theorem l11Common_any (A A' : Option Addr) (m c c' : Nat) (xs ys : List Int) (w : World) (h : Ints w w.heap.size A m xs) (h' : Ints w w.heap.size A' m ys) (hm : m ≤ 1048576) :
    Calls Try.prog 92 #[.slice A m c, .slice A' m c'] w (GivesRow w (comR xs ys)) := by
  have HK := Lib.hid (comR_where (ys := ys) h.len)
  have X := Lib.hid (And.intro h h')
  obtain ⟨ii, hi0, hz0, hz1, hz2⟩ := info_parts Try.info2'
  have HF := Lib.hid (And.intro hi0 (And.intro hz0 (And.intro hz1 hz2)))
  clear hi0 hz0 hz1 hz2
  have R2 := Lib.hid (rowNil (w := w) (t := 2) (s := 1) (base := w.heap.size) (Nat.le_refl _))
  have C2 := Lib.hid ((Below.refl w.heap.size w).alloc (Nat.le_refl _) (.cells #[] 2))
  clear h h'
  go_enter Try.func92, Try.ntmps92
  go_wp2
  go_loopw [5, 6] (fun y x wr => ∃ (j s : Nat) (pv : Value), j ≤ m ∧ x = .int .i64 j ∧ y = pv ∧ s ≤ j ∧ Hid ((whereL (comP xs ys) j).length = s) ∧ Hid (wr.ownsRow w.heap.size 2 1 pv s (intsV (whereL (comP xs ys) j))) ∧ Hid (Below w.heap.size w wr)) (fun _ x _ => m - (intOf x).toNat)
  case atStart => exact ⟨0, 0, _, Nat.zero_le _, rfl, rfl, Nat.le_refl _, Lib.hid rfl, R2, C2⟩
  case round =>
    obtain ⟨j, s, pv, hj, rfl, rfl, hs, HQ, HR, HB⟩ := hrel
    clear R2 C2
    obtain ⟨A1, c1, rfl, _, _, _⟩ := rowInts HR.out HQ.out
    by_cases hlt : j < m
    · obtain ⟨ad, rfl, hab, _, hc⟩ := ints_at (X.out.1.on HB.out) hlt
      obtain ⟨ad', rfl, hab', _, hc'⟩ := ints_at (X.out.2.on HB.out) hlt
      have i0 : (0 : Int) ≤ (j : Int) := by omega
      have i1 : (j : Int) < (m : Int) := by omega
      have hst : comP xs ys j = (decide (xs.getD j 0 = 1) && decide (ys.getD j 0 = 1)) := rfl
      generalize xs.getD j 0 = v at *
      generalize ys.getD j 0 = v' at *
      have HST := Lib.hid hst
      clear hst
      by_cases e1 : v = 1
      · by_cases e2 : v' = 1
        · have HN := Lib.hid (where_yes (p := comP xs ys) (k := j) (by rw [HST.out, e1, e2]; rfl))
          have t1 : (v == 1) = true := by simpa using e1
          have t2 : (v' == 1) = true := by simpa using e2
          clear e1 e2 HST
          have hszw := HB.out.size
          have HZV := Lib.hid (rowBase HR.out)
          go_wp2_with (at_builtin; refine wpList_append_lies _ rfl _ _ 27 rfl w.heap.size 2 ii _ 1 8 Try.underlying27 HF.out.1 HF.out.2.1 HF.out.2.2.1 HF.out.2.2.2 rfl (by omega) _ s _ rfl (rowBelow HR.out ((Below.refl _ _).alloc (Nat.le_refl _) _)) ⟨wr.heap.size, 0, none⟩ 1 1 [(.int .i64 (j : Int))] rfl rfl (World.news_of_block (cs := #[(.int .i64 (j : Int))]) (t := 2) (fr := (0, 0)) (heap_alloc_new wr _)) (by simp [Value.oneCell']) (by omega) (by unfold maxLen; omega) (by omega) (by simp; omega) (wr.heap.size + 1) (by simp) ?_; intro gg cap w5 hown1 hgrow hat hlt3)
          have R5 : Hid (w5.ownsRow w.heap.size 2 1 (.slice (some ⟨gg, 0, none⟩) (s + 1) cap) (s + 1) (intsV (whereL (comP xs ys) (j + 1)))) := Lib.hid (by rw [HN.out, ← intsV_snoc]; exact hown1)
          have Q5 : Hid ((whereL (comP xs ys) (j + 1)).length = s + 1) := Lib.hid (by rw [HN.out, List.length_append, HQ.out]; rfl)
          have B5 := Lib.hid ((HB.out.alloc HB.out.size (.cells #[.int .i64 (j : Int)] 2)).grown hgrow (by simp; omega) (fun q e => by have := HZV.out q e; omega))
          clear hown1 hgrow hat hlt3
          go_wp2
          go_roundw
          case rel => exact ⟨j + 1, s + 1, _, by omega, by go_num, rfl, by omega, Q5, R5, B5⟩
          case measure => simp [intOf]; omega
        · have HN := Lib.hid (where_no (p := comP xs ys) (k := j) (by rw [HST.out, decide_eq_false e2, Bool.and_false]))
          have t1 : (v == 1) = true := by simpa using e1
          have t2 : (v' == 1) = false := by simpa using e2
          clear e1 e2 HST
          go_wp2
          go_roundw
          case rel => exact ⟨j + 1, s, _, by omega, by go_num, rfl, by omega, Lib.hid (by rw [HN.out]; exact HQ.out), Lib.hid (by rw [HN.out]; exact HR.out), HB⟩
          case measure => simp [intOf]; omega
      · have HN := Lib.hid (where_no (p := comP xs ys) (k := j) (by rw [HST.out, decide_eq_false e1, Bool.false_and]))
        have t1 : (v == 1) = false := by simpa using e1
        clear e1 HST
        go_wp2
        go_roundw
        case rel => exact ⟨j + 1, s, _, by omega, by go_num, rfl, by omega, Lib.hid (by rw [HN.out]; exact HQ.out), Lib.hid (by rw [HN.out]; exact HR.out), HB⟩
        case measure => simp [intOf]; omega
    · obtain rfl : j = m := by omega
      obtain ⟨A2, c2, e, ho, h1, h2⟩ := rowInts HR.out HQ.out
      injection e with e1 e2 e3
      subst e1; subst e3
      have HO := Lib.hid ho
      have q1 : s ≤ 1048576 := by omega
      clear ho
      go_wp2
      go_ret
      exact ⟨_, s, _, rfl, by rw [HK.out]; exact HO.out, q1, h1, h2, HB.out⟩

theorem allIn_from {xs : List Int} {k : Nat} {v : Int} (hv : xs[k]? = some v) (h : inB v 0 1 = false) {m : Nat} : rowB m xs = false := by
  unfold rowB; rw [allIn_no hv h, Bool.and_false]

set_option maxRecDepth 100000 in
set_option maxHeartbeats 4000000 in
theorem specIsTable_any (V : Option Addr) (n c : Nat) (T : List (List Int)) (w : World) (h : Sets w w.heap.size V n T) (hn : n + sizeL T ≤ 1048576) :
    Calls Try.prog 40 #[.slice V n c] w fun e w' => e = .returned (.bool (tabB T)) ∧ Below w.heap.size w w' := by
  have HL := Lib.hid h.len
  have HN := Lib.hid hn
  have H := Lib.hid h
  have hn1 : n ≤ 1048576 := by omega
  clear hn h
  rcases hin : inB (n : Int) 1 10 with _ | _
  · have HE := Lib.hid (tabB_len HL.out hin)
    go_enter Try.func40, Try.ntmps40
    go_wp2_with (go_at_call 95; (with_reducible refine (l01In_any _ _ _ _).mono ?_); rintro e w' ⟨rfl, rfl⟩)
    go_ret
    exact ⟨ret_bool HE.out.symm, Below.refl _ _⟩
  have hn10 := inB_true.1 hin
  have HIN := Lib.hid hin
  obtain ⟨ad, r0, A0, m, c0, rfl, hab0, hy0, hc0, hi0, _, _⟩ := H.out.at_ (k := 0) (by omega)
  have HM : Hid (colT T = m) := Lib.hid (by unfold colT; rw [List.getD_eq_getElem?_getD, hy0]; exact hi0.len)
  rw [addr_zero] at hc0
  have HC0 := Lib.hid hc0
  have HAB0 := Lib.hid hab0
  have hm0 : m ≤ 1048576 := by have := fits_at HN.out hy0; have := hi0.len; omega
  clear hy0 hi0 hc0 hab0
  go_enter Try.func40, Try.ntmps40
  go_wp2_with (go_at_call 95; (with_reducible refine (l01In_any _ _ _ _).mono ?_); rintro e w' ⟨rfl, rfl⟩)
  clear hin
  go_loopw [3] (fun i wr => ∃ j : Nat, j ≤ n ∧ i = .int .i64 j ∧ Hid (Below w.heap.size w wr) ∧ Hid ((T.take j).all (rowB m) = true) ∧ Hid (0 < j → inB (m : Int) 1 12 = true)) (fun i _ => n - (intOf i).toNat)
  case atStart => exact ⟨0, Nat.zero_le _, rfl, Lib.hid (Below.refl _ _), Lib.hid rfl, Lib.hid (fun h => absurd h (by omega))⟩
  case round =>
    obtain ⟨j, hj, rfl, HB, hall, hcol⟩ := hrel
    by_cases hlt : j < n
    · obtain ⟨_, ys, A2, q2, c2, e0, hab, hy, hc, hi, _, _⟩ := (H.out.on HB.out).at_ hlt
      injection e0 with e0
      subst e0
      have HY := Lib.hid hy
      have HI := Lib.hid hi
      have hq2 : q2 ≤ 1048576 := by have := fits_at HN.out hy; have := hi.len; omega
      have hc0 := (HB.out.cell HAB0.out).trans HC0.out
      have i0 : (0 : Int) ≤ (j : Int) := by omega
      have i1 : (j : Int) < (n : Int) := by omega
      have i2 : 0 < n := by omega
      clear hy hi
      by_cases hne : q2 = m
      · subst hne
        rcases hin : inB (q2 : Int) 1 12 with _ | _
        · have HE := Lib.hid (tabB_col HM.out hin)
          go_wp2
          go_quiet ((go_at_call 95; (try rw [← hin]); exact quiet_left (l01In_any _ _ _ _)))
          go_wp2
          go_ret
          exact ⟨ret_bool HE.out.symm, below_drewN HB.out _⟩
        · have HCOL := Lib.hid hin
          go_wp2
          go_quiet ((go_at_call 95; (try rw [← hin]); exact quiet_left (l01In_any _ _ _ _)))
          clear hin
          obtain ⟨wo, rfl⟩ : ∃ wo, wo = wr := ⟨_, rfl⟩
          have HCR := Lib.hid hc
          go_wp2
          go_loopw [4] (fun i wr2 => ∃ k : Nat, k ≤ q2 ∧ i = .int .i64 k ∧ Hid (Below wo.heap.size wo wr2) ∧ Hid (allIn 0 1 (ys.take k) = true)) (fun i _ => q2 - (intOf i).toNat)
          case atStart => exact ⟨0, Nat.zero_le _, rfl, Lib.hid (below_drewN (Below.refl _ _) _), Lib.hid rfl⟩
          case round =>
            obtain ⟨k, hk, rfl, HB2, hall2⟩ := hrel
            have hcr := (HB2.out.cell (p := ad.add j) (by rw [block_of_add]; exact hab)).trans HCR.out
            clear hc
            by_cases hkq : k < q2
            · obtain ⟨bd, v, rfl, hbb, hv, hcv⟩ := (HI.out.on HB2.out).at_ hkq
              have HV := Lib.hid hv
              have k0 : (0 : Int) ≤ (k : Int) := by omega
              have k1 : (k : Int) < (q2 : Int) := by omega
              clear hv
              rcases hin : inB v 0 1 with _ | _
              · have HE := Lib.hid (tabB_row HM.out HY.out (allIn_from HV.out hin))
                go_wp2_with (go_at_call 95; (with_reducible refine (l01In_any _ _ _ _).mono ?_); rintro e w' ⟨rfl, rfl⟩)
                go_ret
                exact ⟨ret_bool HE.out.symm, below_trans' HB.out HB2.out⟩
              · have HA := Lib.hid (allIn_step HV.out hall2.out hin)
                go_wp2_with (go_at_call 95; (with_reducible refine (l01In_any _ _ _ _).mono ?_); rintro e w' ⟨rfl, rfl⟩)
                go_roundw
                case rel => exact ⟨k + 1, by omega, by go_num, HB2, HA⟩
                case measure => simp [intOf]; omega
            · have HRB : Hid (rowB q2 ys = true) := Lib.hid (by
                have h1 := hall2.out
                rw [List.take_of_length_le (by have := HI.out.len; omega)] at h1
                rw [rowB_all HI.out.len rfl]; exact h1)
              have HA := Lib.hid (rows_step HY.out hall.out HRB.out)
              go_wp2
              go_roundw
              case rel => exact ⟨j + 1, by omega, by go_num, Lib.hid (below_trans' HB.out HB2.out), HA, Lib.hid (fun _ => by first | exact HCOL.out | trivial)⟩
              case measure => simp [intOf]; omega
      · have HE := Lib.hid (tabB_row HM.out HY.out (rowB_len HI.out.len hne))
        have d1 : ((q2 : Int) != (m : Int)) = true := by simp; omega
        clear hne
        go_wp2
        go_quiet ((go_at_call 95; exact quiet_left (l01In_any _ _ _ _)))
        go_wp2
        go_ret
        exact ⟨ret_bool HE.out.symm, below_drewN HB.out _⟩
    · obtain rfl : j = n := by omega
      have HE := Lib.hid (tabB_yes HL.out HM.out HIN.out (hcol.out (by omega)) hall.out)
      go_wp2
      go_ret
      exact ⟨ret_bool HE.out.symm, HB.out⟩

theorem l11Code_any (V : Option Addr) (n c : Nat) (T : List (List Int)) (k : Int) (w : World) (h : Sets w w.heap.size V n T) (hn : n + sizeL T ≤ 1048576) :
    Calls Try.prog 83 #[.slice V n c, .int .i64 k] w fun e w' => e = .returned (.int .i64 (tkE T k)) ∧ Below w.heap.size w w' := by
  have HL := Lib.hid h.len
  go_enter Try.func83, Try.ntmps83
  go_wp2_with fail
  refine (specIsTable_any V n c T _ h hn).mono ?_
  rcases hb : tabB T with _ | _
  · have HE : Hid (tkE T k = 1) := Lib.hid (by unfold tkE; rw [hb]; rfl)
    rintro e w1 ⟨rfl, b1⟩
    have C1 := Lib.hid b1
    clear b1 hb
    go_wp2
    go_ret
    exact ⟨ret_int HE.out.symm, C1.out⟩
  rintro e w1 ⟨rfl, b1⟩
  have C1 := Lib.hid b1
  rcases hin : inB k 0 ((n : Int) - 1) with _ | _
  · have HE : Hid (tkE T k = 2) := Lib.hid (by unfold tkE; rw [hb, HL.out, hin]; rfl)
    have hn1 : n ≤ 1048576 := by omega
    clear b1 hb h hn
    go_wp2_with (go_at_call 95; (with_reducible refine (l01In_any _ _ _ _).mono ?_); rintro e w' ⟨rfl, rfl⟩)
    go_ret
    exact ⟨ret_int HE.out.symm, C1.out⟩
  · have HE : Hid (tkE T k = 0) := Lib.hid (by unfold tkE; rw [hb, HL.out, hin]; rfl)
    have hn1 : n ≤ 1048576 := by omega
    clear b1 hb h hn
    go_wp2_with (go_at_call 95; (with_reducible refine (l01In_any _ _ _ _).mono ?_); rintro e w' ⟨rfl, rfl⟩)
    go_ret
    exact ⟨ret_int HE.out.symm, C1.out⟩

end Go.Proofs.Ytidjnnooeepklaa
