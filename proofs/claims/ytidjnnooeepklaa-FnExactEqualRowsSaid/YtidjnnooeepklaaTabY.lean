/- The model's IsHierarchical and EqualRows. -/
import Derived.Test.YtidjnnooeepklaaTabU
namespace Go.Proofs.Ytidjnnooeepklaa
open Go Go.RowKit

theorem l11In_b (A A' : Option Addr) (m c c' : Nat) (xs ys : List Int) (w : World) (q : Bool) (hq : inR xs ys = q) (h : Ints w w.heap.size A m xs) (h' : Ints w w.heap.size A' m ys) (hm : m ≤ 1048576) :
    Calls Try.prog 84 #[.slice A m c, .slice A' m c'] w fun e w' => e = .returned (.bool q) ∧ Below w.heap.size w w' :=
  (l11In_at A A' m c c' xs ys w q hq h h' hm).mono fun _ _ ⟨e, q, h⟩ => ⟨e, by rw [h]; exact below_drewN (Below.refl _ _) q⟩
theorem sameS_at (A A' : Option Addr) (n n' c c' : Nat) (xs ys : List Int) (w : World) (q : Bool) (hq : decide (xs = ys) = q) (h : Ints w w.heap.size A n xs) (h' : Ints w w.heap.size A' n' ys) (hn : n ≤ 1048576) :
    Calls Try.prog 86 #[.slice A n c, .slice A' n' c'] w fun e w' => e = .returned (.bool q) ∧ ∃ q, w' = w.drewN q := by
  subst hq; exact sameS_any A A' n n' c c' xs ys w h h' hn
theorem ret_bi2 {a b : Bool} {c d : Int} (h : a = b) (h2 : c = d) : Ending.returned (.tuple #[.bool a, .int .i64 c]) = .returned (.tuple #[.bool b, .int .i64 d]) := by rw [h, h2]
theorem hierP_in {xs ys : List Int} (h : inR xs ys = true) : hierP xs ys = true := by unfold hierP; rw [h]; rfl
theorem hierP_in2 {xs ys : List Int} (h : inR ys xs = true) : hierP xs ys = true := by unfold hierP; rw [h]; simp
theorem hierP_com {xs ys : List Int} {n : Nat} (h : inR xs ys = false) (h2 : inR ys xs = false) (hl : (comR xs ys).length = n) : hierP xs ys = decide (n = 0) := by
  unfold hierP; rw [h, h2]
  rw [Bool.false_or, Bool.false_or, Bool.eq_iff_iff, List.isEmpty_iff, decide_eq_true_iff, ← hl, List.length_eq_zero_iff]

set_option maxRecDepth 100000 in
set_option maxHeartbeats 4000000 in
theorem specIsHierarchical_any (V : Option Addr) (n c : Nat) (T : List (List Int)) (w : World) (h : Sets w w.heap.size V n T) (hn : n + sizeL T ≤ 1048576) :
    Calls Try.prog 33 #[.slice V n c] w fun e w' => e = .returned (.tuple #[.bool (hierV T), .int .i64 (tE T)]) ∧ Below w.heap.size w w' := by
  have HL := Lib.hid h.len
  have HN := Lib.hid hn
  have H := Lib.hid h
  clear h hn
  rcases hb : tabB T with _ | _
  · have HV : Hid (hierV T = false ∧ tE T = 1) := Lib.hid (by unfold hierV tE; rw [hb]; exact ⟨rfl, rfl⟩)
    go_enter Try.func33, Try.ntmps33
    go_wp2_with fail
    refine (specIsTable_any V n c T _ H.out HN.out).mono ?_
    rw [hb]
    rintro e w1 ⟨rfl, b1⟩
    have C1 := Lib.hid b1
    clear b1 hb
    go_wp2
    go_ret2
    exact ⟨ret_bi2 HV.out.1.symm HV.out.2.symm, C1.out⟩
  have HE : Hid (tE T = 0) := Lib.hid (by unfold tE; rw [hb]; rfl)
  have HV : Hid (hierV T = hierB T n) := Lib.hid (by unfold hierV; rw [HE.out, if_pos rfl, HL.out])
  have hm := (tabB_true hb).2.1
  have hm100 : colT T ≤ 1048576 := by omega
  have HB := Lib.hid hb
  have hn10 : n ≤ 10 := by have := (tabB_true hb).1; have := HL.out; omega
  clear hb hm
  go_enter Try.func33, Try.ntmps33
  go_wp2_with fail
  refine (specIsTable_any V n c T _ H.out HN.out).mono ?_
  rw [HB.out]
  rintro e w1 ⟨rfl, b1⟩
  have C1 := Lib.hid b1
  clear b1
  go_wp2
  go_loopw [4] (fun i wr => ∃ j : Nat, j ≤ n ∧ i = .int .i64 j ∧ Hid (hierB T j = true) ∧ Hid (Below w.heap.size w wr)) (fun i _ => n - (intOf i).toNat)
  case atStart => exact ⟨0, Nat.zero_le _, rfl, Lib.hid rfl, C1⟩
  case round =>
    obtain ⟨j, hj, rfl, hall, HBB⟩ := hrel
    clear C1
    by_cases hlt : j < n
    · go_wp2
      go_loopw [5] (fun i wr => ∃ k : Nat, k ≤ j ∧ i = .int .i64 k ∧ Hid (hierK T j k = true) ∧ Hid (Below w.heap.size w wr)) (fun i _ => j - (intOf i).toNat)
      case atStart => exact ⟨0, Nat.zero_le _, rfl, Lib.hid rfl, HBB⟩
      case round =>
        obtain ⟨k, hk, rfl, hall2, HB2⟩ := hrel
        clear HBB
        by_cases hkj : k < j
        · obtain ⟨ad, A2, c2, rfl, hab, _, hc, hi, _, _⟩ := tab_at (H.out.on HB2.out) HB.out rfl hlt
          obtain ⟨_, A3, c3, e3, _, _, hc3, hi3, _, _⟩ := tab_at (H.out.on HB2.out) HB.out rfl (show k < n by omega)
          injection e3 with e3
          subst e3
          have HI := Lib.hid (And.intro hi hi3)
          have HC := Lib.hid (And.intro hc hc3)
          have HAB := Lib.hid hab
          have i0 : (0 : Int) ≤ (j : Int) := by omega
          have i1 : (j : Int) < (n : Int) := by omega
          have i2 : (0 : Int) ≤ (k : Int) := by omega
          have i3 : (k : Int) < (n : Int) := by omega
          clear hi hi3 hab
          rcases hp : inR (getR T j) (getR T k) with _ | _
          rotate_left
          · have HP := Lib.hid hp
            have HK : Hid (hierK T j (k + 1) = true) := Lib.hid (by rw [hierK_step, hall2.out, hierP_in hp]; rfl)
            clear hp
            go_wp2
            go_quiet ((go_at_call 84; exact quiet_on (l11In_at _ _ (colT T) _ _ (getR T j) (getR T k) _ _ HP.out (ints_drewN HI.out.1 _) (ints_drewN HI.out.2 _) hm100)))
            go_wp2
            go_roundw
            case rel => exact ⟨k + 1, by omega, by go_num, HK, Lib.hid (below_drewN HB2.out _)⟩
            case measure => simp [intOf]; omega
          have HP := Lib.hid hp
          rcases hp2 : inR (getR T k) (getR T j) with _ | _
          rotate_left
          · have HP2 := Lib.hid hp2
            have HK : Hid (hierK T j (k + 1) = true) := Lib.hid (by rw [hierK_step, hall2.out, hierP_in2 hp2]; rfl)
            clear hp hp2
            go_wp2
            go_quiet (first
              | (go_at_call 84; exact quiet_on (l11In_at _ _ (colT T) _ _ (getR T j) (getR T k) _ _ HP.out (ints_drewN HI.out.1 _) (ints_drewN HI.out.2 _) hm100))
              | (go_at_call 84; exact quiet_on (l11In_at _ _ (colT T) _ _ (getR T k) (getR T j) _ _ HP2.out (ints_drewN HI.out.2 _) (ints_drewN HI.out.1 _) hm100)))
            go_wp2
            go_roundw
            case rel => exact ⟨k + 1, by omega, by go_num, HK, Lib.hid (below_drewN HB2.out _)⟩
            case measure => simp [intOf]; omega
          have HP2 := Lib.hid hp2
          clear hp hp2
          go_wp2
          go_region_held3 (fun w' => w'.cell? (ad.add j) = some (.slice A2 (colT T) c2) ∧ w'.cell? (ad.add k) = some (.slice A3 (colT T) c3))
            (first
              | go_keep
              | (with_reducible exact E1.out)
              | (with_reducible exact E2.out)
              | (with_reducible exact E3.out))
            (first
              | ((fail_if_success (have := Ca)); go_at_call 84; refine (l11In_b A2 A3 (colT T) c2 c3 (getR T j) (getR T k) _ _ HP.out (ints_drewN HI.out.1 1) (ints_drewN HI.out.2 1) hm100).mono ?_; rintro e wa ⟨rfl, ba⟩; have bba := below_trans' (below_drewN (Below.refl _ _) 1) ba; have Ca := Lib.hid bba; have E1 := Lib.hid (And.intro ((bba.cell (p := ad.add j) (by rw [block_of_add]; exact HAB.out)).trans HC.out.1) ((bba.cell (p := ad.add k) (by rw [block_of_add]; exact HAB.out)).trans HC.out.2)))
              | ((fail_if_success (have := Cb)); go_at_call 84; refine (l11In_b A3 A2 (colT T) c3 c2 (getR T k) (getR T j) _ _ HP2.out (HI.out.2.on Ca.out) (HI.out.1.on Ca.out) hm100).mono ?_; rintro e wb ⟨rfl, bb⟩; have bbb := below_trans' Ca.out bb; have Cb := Lib.hid bbb; have E2 := Lib.hid (And.intro ((bbb.cell (p := ad.add j) (by rw [block_of_add]; exact HAB.out)).trans HC.out.1) ((bbb.cell (p := ad.add k) (by rw [block_of_add]; exact HAB.out)).trans HC.out.2)))
              | (go_at_call 92; refine (l11Common_any A2 A3 (colT T) c2 c3 (getR T j) (getR T k) _ (HI.out.1.on Cb.out) (HI.out.2.on Cb.out) hm100).mono ?_; rintro e wc ⟨A4, n4, c4, rfl, ho, h1, h2, h3, bc⟩; have bbc := below_trans' Cb.out bc; have Cc := Lib.hid bbc; have HO := Lib.hid ho.len; have E3 := Lib.hid (And.intro ((bbc.cell (p := ad.add j) (by rw [block_of_add]; exact HAB.out)).trans HC.out.1) ((bbc.cell (p := ad.add k) (by rw [block_of_add]; exact HAB.out)).trans HC.out.2))))
          all_goals
            have HQ := Lib.hid (hierP_com HP.out HP2.out HO.out)
            clear E1 E2 E3 ho hc hc3
            by_cases h0 : n4 = 0
            · subst h0
              have HK : Hid (hierK T j (k + 1) = true) := Lib.hid (by rw [hierK_step, hall2.out, HQ.out]; rfl)
              go_wp2
              go_roundw
              case rel => exact ⟨k + 1, by omega, by go_num, HK, Lib.hid (below_trans' HB2.out Cc.out)⟩
              case measure => simp [intOf]; omega
            · have n0 : 0 < n4 := by omega
              have HF : Hid (hierB T n = false) := Lib.hid (hierB_no hlt (hierK_no hkj (by rw [HQ.out, decide_eq_false h0])))
              clear h0
              go_wp2
              go_ret2
              exact ⟨ret_bi2 (by rw [HV.out, HF.out]) HE.out.symm, below_trans' HB2.out Cc.out⟩
        · obtain rfl : k = j := by omega
          have HK : Hid (hierB T (k + 1) = true) := Lib.hid (by rw [hierB_step, hall.out, hall2.out]; rfl)
          go_wp2
          go_roundw
          case rel => exact ⟨k + 1, by omega, by go_num, HK, HB2⟩
          case measure => simp [intOf]; omega
    · obtain rfl : j = n := by omega
      go_wp2
      go_ret2
      exact ⟨ret_bi2 (by rw [HV.out, hall.out]) HE.out.symm, HBB.out⟩

/-- the first rows that are equal, of the first k rows -/
def eqTo (T : List (List Int)) (k : Nat) : List Int := (List.range k).map fun i => (fstR T i : Int)
theorem eqTo_step (T : List (List Int)) (k : Nat) : eqTo T (k + 1) = eqTo T k ++ [(fstR T k : Int)] := by
  unfold eqTo; rw [List.range_succ, List.map_append]; rfl
theorem eqTo_len (T : List (List Int)) (k : Nat) : (eqTo T k).length = k := by unfold eqTo; simp
theorem getR_at {T : List (List Int)} {n i : Nat} (hl : T.length = n) (hi : i < n) : ∃ h : i < T.length, T[i] = getR T i := ⟨by omega, by
  unfold getR; rw [List.getD_eq_getElem?_getD, List.getElem?_eq_getElem (by omega)]; rfl⟩
theorem fstR_is {T : List (List Int)} {n i k : Nat} (hl : T.length = n) (hi : i < n) (hk : k ≤ i) (h1 : ∀ j, j < k → getR T j ≠ getR T i) (h2 : getR T k = getR T i) : fstR T i = k := by
  unfold fstR
  have hkl : k < T.length := by omega
  rw [List.findIdx_eq hkl]
  refine ⟨?_, fun j hj => ?_⟩
  · obtain ⟨_, e⟩ := getR_at (T := T) hl (show k < n by omega)
    rw [e, h2]; simp
  · obtain ⟨_, e⟩ := getR_at (T := T) hl (show j < n by omega)
    rw [e]
    exact decide_eq_false (h1 j hj)

set_option maxRecDepth 100000 in
set_option maxHeartbeats 4000000 in
theorem specEqualRows_any (V : Option Addr) (n c : Nat) (T : List (List Int)) (w : World) (h : Sets w w.heap.size V n T) (hn : n + sizeL T ≤ 1048576) :
    Calls Try.prog 25 #[.slice V n c] w (GivesList w (tE T) (eqT T)) := by
  have HL := Lib.hid h.len
  have HN := Lib.hid hn
  have H := Lib.hid h
  clear h hn
  obtain ⟨ii, hi0, hz0, hz1, hz2⟩ := info_parts Try.info2'
  have HF := Lib.hid (And.intro hi0 (And.intro hz0 (And.intro hz1 hz2)))
  clear hi0 hz0 hz1 hz2
  rcases hb : tabB T with _ | _
  · have HV : Hid (eqT T = [] ∧ tE T = 1) := Lib.hid (by unfold eqT tE; rw [hb]; exact ⟨rfl, rfl⟩)
    rw [HV.out.1, HV.out.2]
    go_enter Try.func25, Try.ntmps25
    go_wp2_with fail
    refine (specIsTable_any V n c T _ H.out HN.out).mono ?_
    rw [hb]
    rintro e w1 ⟨rfl, b1⟩
    have C1 := Lib.hid b1
    clear b1 hb
    go_wp2
    go_ret2
    exact ⟨none, 0, 0, rfl, Own.nil _ (Nat.le_refl _), by omega, by omega, by omega, C1.out⟩
  have HV : Hid (eqT T = eqTo T n ∧ tE T = 0) := Lib.hid (by
    have e : tE T = 0 := by unfold tE; rw [hb]; rfl
    exact ⟨by unfold eqT eqTo; rw [e, if_pos rfl, HL.out], e⟩)
  rw [HV.out.1, HV.out.2]
  have hm := (tabB_true hb).2.1
  have hm100 : colT T ≤ 1048576 := by omega
  have HB := Lib.hid hb
  have hn10 : n ≤ 10 := by have := (tabB_true hb).1; have := HL.out; omega
  clear hb hm
  go_enter Try.func25, Try.ntmps25
  go_wp2_with fail
  refine (specIsTable_any V n c T _ H.out HN.out).mono ?_
  rw [HB.out]
  rintro e w1 ⟨rfl, b1⟩
  have R2 := Lib.hid (rowNil (w := w1) (t := 2) (s := 1) (base := w1.heap.size) (Nat.le_refl _))
  have C1 := Lib.hid b1
  have C2 := Lib.hid (below_boxT w1 (.cells #[] 2))
  have hlw : w.heap.size ≤ w1.heap.size := b1.size
  clear b1
  go_wp2
  go_loopw [4, 5] (fun y x wr => ∃ (j : Nat) (pv : Value), j ≤ n ∧ x = .int .i64 j ∧ y = pv ∧ Hid (wr.ownsRow w1.heap.size 2 1 pv j (intsV (eqTo T j))) ∧ Hid (Below w1.heap.size w1 wr)) (fun _ x _ => n - (intOf x).toNat)
  case atStart => exact ⟨0, _, Nat.zero_le _, rfl, rfl, R2, C2⟩
  case round =>
    obtain ⟨j, pv, hj, rfl, rfl, HR, HFF⟩ := hrel
    clear R2 C2
    have HBB := Lib.hid (below_trans' C1.out HFF.out)
    have HQ := Lib.hid (eqTo_len T j)
    obtain ⟨A1, c1, rfl, _, _, _⟩ := rowInts HR.out HQ.out
    by_cases hlt : j < n
    · have HN2 := Lib.hid (eqTo_step T j)
      obtain ⟨pw, hpw⟩ : ∃ pw, pw = (Value.slice A1 j c1) := ⟨_, rfl⟩
      go_wp2
      go_loopw [6] (fun i wr => ∃ k : Nat, k ≤ j ∧ i = .int .i64 k ∧ Hid (∀ i, i < k → getR T i ≠ getR T j) ∧ Hid (wr.ownsRow w1.heap.size 2 1 (.slice A1 j c1) j (intsV (eqTo T j))) ∧ Hid (Below w1.heap.size w1 wr)) (fun i _ => j - (intOf i).toNat)
      case atStart => exact ⟨0, Nat.zero_le _, rfl, Lib.hid (fun i hi => absurd hi (by omega)), HR, HFF⟩
      case round =>
        obtain ⟨k, hk, rfl, hne, HR2, HF2⟩ := hrel
        clear HR HFF HBB
        have HBB := Lib.hid (below_trans' C1.out HF2.out)
        obtain ⟨ad, A2, c2, rfl, hab, _, hc, hi, _, _⟩ := tab_at (H.out.on HBB.out) HB.out rfl hlt
        obtain ⟨_, A3, c3, e3, _, _, hc3, hi3, _, _⟩ := tab_at (H.out.on HBB.out) HB.out rfl (show k < n by omega)
        injection e3 with e3
        subst e3
        have HI := Lib.hid (And.intro hi hi3)
        have i0 : (0 : Int) ≤ (j : Int) := by omega
        have i1 : (j : Int) < (n : Int) := by omega
        have i2 : (0 : Int) ≤ (k : Int) := by omega
        have i3 : (k : Int) < (n : Int) := by omega
        clear hi hi3 hab
        by_cases he : getR T k = getR T j
        · have HN3 : Hid (eqTo T (j + 1) = eqTo T j ++ [(k : Int)]) := Lib.hid (by rw [HN2.out, fstR_is HL.out hlt hk hne.out he])
          have HS : Hid (decide (getR T k = getR T j) = true) := Lib.hid (decide_eq_true he)
          clear he
          go_wp2
          go_quiet ((go_at_call 86; exact quiet_on (sameS_at A3 A2 (colT T) (colT T) c3 c2 (getR T k) (getR T j) _ true HS.out (ints_drewN HI.out.2 _) (ints_drewN HI.out.1 _) hm100)))
          rename_i nq
          have R3 := Lib.hid (rowBelow HR2.out (below_drewN (Below.refl _ _) nq))
          have B3 := Lib.hid (below_drewN HF2.out nq)
          clear hc hc3
          generalize wr.drewN nq = w4 at *
          have hszw := B3.out.size
          have HZV := Lib.hid (rowBase R3.out)
          go_wp2_with (at_builtin; refine wpList_append_lies _ rfl _ _ 27 rfl w1.heap.size 2 ii _ 1 8 Try.underlying27 HF.out.1 HF.out.2.1 HF.out.2.2.1 HF.out.2.2.2 rfl (by omega) _ j _ rfl (rowBelow R3.out ((Below.refl _ _).alloc (Nat.le_refl _) _)) ⟨w4.heap.size, 0, none⟩ 1 1 [(.int .i64 (k : Int))] rfl rfl (World.news_of_block (cs := #[(.int .i64 (k : Int))]) (t := 2) (fr := (0, 0)) (heap_alloc_new w4 _)) (by simp [Value.oneCell']) (by omega) (by unfold maxLen; omega) (by omega) (by simp; omega) (w4.heap.size + 1) (by simp) ?_; intro gg cap w5 hown1 hgrow hat hlt3)
          have R5 : Hid (w5.ownsRow w1.heap.size 2 1 (.slice (some ⟨gg, 0, none⟩) (j + 1) cap) (j + 1) (intsV (eqTo T (j + 1)))) := Lib.hid (by rw [HN3.out, ← intsV_snoc]; exact hown1)
          have Q5 : Hid ((eqTo T (j + 1)).length = j + 1) := Lib.hid (by rw [HN3.out, List.length_append, HQ.out]; rfl)
          have B5 := Lib.hid ((B3.out.alloc B3.out.size (.cells #[.int .i64 (k : Int)] 2)).grown hgrow (by simp; omega) (fun q e => by have := HZV.out q e; omega))
          clear hown1 hgrow hat hlt3
          go_wp2
          go_roundw
          case rel => exact ⟨j + 1, _, by omega, by go_num, rfl, R5, B5⟩
          case measure => simp [intOf]; omega
        · have hkj : k < j := by
            rcases Nat.lt_or_eq_of_le hk with h1 | h1
            · exact h1
            · subst h1; exact absurd rfl he
          have HS : Hid (decide (getR T k = getR T j) = false) := Lib.hid (decide_eq_false he)
          have HNE : Hid (∀ i, i < k + 1 → getR T i ≠ getR T j) := Lib.hid (fun i hi => by
            rcases Nat.lt_or_eq_of_le (Nat.le_of_lt_succ hi) with h1 | h1
            · exact hne.out i h1
            · subst h1; exact he)
          clear he
          go_wp2
          go_quiet ((go_at_call 86; exact quiet_on (sameS_at A3 A2 (colT T) (colT T) c3 c2 (getR T k) (getR T j) _ false HS.out (ints_drewN HI.out.2 _) (ints_drewN HI.out.1 _) hm100)))
          go_wp2
          go_roundw
          case rel => exact ⟨k + 1, by omega, by go_num, HNE, Lib.hid (rowBelow HR2.out (below_drewN (Below.refl _ _) _)), Lib.hid (below_drewN HF2.out _)⟩
          case measure => simp [intOf]; omega
    · obtain rfl : j = n := by omega
      obtain ⟨A2, c2, e, ho, h1, h2⟩ := rowInts HR.out HQ.out
      injection e with e1 e2 e3
      subst e1; subst e3
      have HO := Lib.hid (ho.more hlw (Nat.le_refl _) (Nat.le_refl _))
      have q1 : j ≤ 1048576 := by omega
      clear ho
      go_wp2
      go_ret2
      exact ⟨_, j, _, rfl, HO.out, q1, h1, h2, HBB.out⟩

end Go.Proofs.Ytidjnnooeepklaa
