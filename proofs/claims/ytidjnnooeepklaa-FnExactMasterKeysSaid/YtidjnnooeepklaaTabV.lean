/- The model's ContainedIn, MasterKeys. -/
import Derived.Test.YtidjnnooeepklaaTabU
namespace Go.Proofs.Ytidjnnooeepklaa
open Go Go.RowKit

set_option maxRecDepth 100000 in
set_option maxHeartbeats 4000000 in
theorem specContainedIn_any (V : Option Addr) (n c : Nat) (T : List (List Int)) (x : Int) (w : World) (h : Sets w w.heap.size V n T) (hn : n + sizeL T ≤ 1048576) :
    Calls Try.prog 20 #[.slice V n c, .int .i64 x] w (GivesList w (tkE T x) (ciL T x)) := by
  have HL := Lib.hid h.len
  have HN := Lib.hid hn
  have H := Lib.hid h
  clear h hn
  obtain ⟨ii, hi0, hz0, hz1, hz2⟩ := info_parts Try.info2'
  have HF := Lib.hid (And.intro hi0 (And.intro hz0 (And.intro hz1 hz2)))
  clear hi0 hz0 hz1 hz2
  obtain ⟨z, hz⟩ : ∃ z, tkE T x = z := ⟨_, rfl⟩
  have HE := Lib.hid hz
  rw [HE.out]
  by_cases hz0 : z = 0
  rotate_left
  · have HV : Hid (ciL T x = []) := Lib.hid (by unfold ciL; rw [HE.out, if_neg hz0])
    have ht : (z != 0) = true := by simpa using hz0
    rw [HV.out]
    clear hz hz0
    go_enter Try.func20, Try.ntmps20
    go_wp2_with fail
    refine (l11Code_any V n c T x _ H.out HN.out).mono ?_
    rw [HE.out]
    rintro e w1 ⟨rfl, b1⟩
    have C1 := Lib.hid b1
    clear b1
    go_wp2
    go_ret2
    exact ⟨none, 0, 0, rfl, Own.nil _ (Nat.le_refl _), by omega, by omega, by omega, C1.out⟩
  subst hz0
  obtain ⟨hb, hin⟩ := tk_zero hz
  rw [HL.out] at hin
  obtain ⟨K, rfl, hK⟩ := in_nat hin
  have HV : Hid (ciL T (K : Int) = whereL (ciP T K) n) := Lib.hid (by unfold ciL; rw [HE.out, if_pos rfl, Int.toNat_natCast, HL.out])
  rw [HV.out]
  have hm := (tabB_true hb).2.1
  have hm100 : colT T ≤ 1048576 := by omega
  have HB := Lib.hid hb
  have hn10 : n ≤ 10 := by have := (tabB_true hb).1; have := HL.out; omega
  clear hz hin hb hm
  go_enter Try.func20, Try.ntmps20
  go_wp2_with fail
  refine (l11Code_any V n c T (K : Int) _ H.out HN.out).mono ?_
  rw [HE.out]
  rintro e w1 ⟨rfl, b1⟩
  have R2 := Lib.hid (rowNil (w := w1) (t := 2) (s := 1) (base := w1.heap.size) (Nat.le_refl _))
  have C1 := Lib.hid b1
  have C2 := Lib.hid (below_boxT w1 (.cells #[] 2))
  have hlw : w.heap.size ≤ w1.heap.size := b1.size
  clear b1
  go_wp2
  go_loopw [7, 8] (fun y x wr => ∃ (j s : Nat) (pv : Value), j ≤ n ∧ x = .int .i64 j ∧ y = pv ∧ s ≤ j ∧ Hid ((whereL (ciP T K) j).length = s) ∧ Hid (wr.ownsRow w1.heap.size 2 1 pv s (intsV (whereL (ciP T K) j))) ∧ Hid (Below w1.heap.size w1 wr)) (fun _ x _ => n - (intOf x).toNat)
  case atStart => exact ⟨0, 0, _, Nat.zero_le _, rfl, rfl, Nat.le_refl _, Lib.hid rfl, R2, C2⟩
  case round =>
    obtain ⟨j, s, pv, hj, rfl, rfl, hs, HQ, HR, HFF⟩ := hrel
    clear R2 C2
    have HBB := Lib.hid (below_trans' C1.out HFF.out)
    obtain ⟨A1, c1, rfl, _, _, _⟩ := rowInts HR.out HQ.out
    by_cases hlt : j < n
    · obtain ⟨ad, A2, c2, rfl, hab, _, hc, hi, _, _⟩ := tab_at (H.out.on HBB.out) HB.out rfl hlt
      obtain ⟨_, A3, c3, e3, _, _, hc3, hi3, _, _⟩ := tab_at (H.out.on HBB.out) HB.out rfl hK
      injection e3 with e3
      subst e3
      have HI := Lib.hid (And.intro hi hi3)
      have i0 : (0 : Int) ≤ (j : Int) := by omega
      have i1 : (j : Int) < (n : Int) := by omega
      have i2 : (0 : Int) ≤ (K : Int) := by omega
      have i3 : (K : Int) < (n : Int) := by omega
      clear hi hi3 hab
      by_cases hjk : j = K
      · subst hjk
        have HN2 := Lib.hid (where_no (p := ciP T j) (k := j) (by unfold ciP; simp))
        have d1 : ((j : Int) != (j : Int)) = false := by simp
        go_wp2
        go_quiet ((go_at_call 84; exact quiet_on (l11In_any _ _ (colT T) _ _ (getR T j) (getR T j) _ (ints_drewN HI.out.1 _) (ints_drewN HI.out.2 _) hm100)))
        go_wp2
        go_roundw
        case rel => exact ⟨j + 1, s, _, by omega, by go_num, rfl, by omega, Lib.hid (by rw [HN2.out]; exact HQ.out), Lib.hid (by rw [HN2.out]; exact rowBelow HR.out (below_drewN (Below.refl _ _) _)), Lib.hid (below_drewN HFF.out _)⟩
        case measure => simp [intOf]; omega
      have d1 : ((j : Int) != (K : Int)) = true := by simp; omega
      have HNE := Lib.hid (decide_eq_true hjk)
      clear hjk
      rcases hp : inR (getR T j) (getR T K) with _ | _
      · have HN2 := Lib.hid (where_no (p := ciP T K) (k := j) (by unfold ciP; rw [hp, Bool.and_false]))
        have HP := Lib.hid hp
        clear hp
        go_wp2
        go_quiet ((go_at_call 84; exact quiet_on (l11In_at _ _ (colT T) _ _ (getR T j) (getR T K) _ _ HP.out (ints_drewN HI.out.1 _) (ints_drewN HI.out.2 _) hm100)))
        go_wp2
        go_roundw
        case rel => exact ⟨j + 1, s, _, by omega, by go_num, rfl, by omega, Lib.hid (by rw [HN2.out]; exact HQ.out), Lib.hid (by rw [HN2.out]; exact rowBelow HR.out (below_drewN (Below.refl _ _) _)), Lib.hid (below_drewN HFF.out _)⟩
        case measure => simp [intOf]; omega
      · have HN2 := Lib.hid (where_yes (p := ciP T K) (k := j) (by unfold ciP; rw [hp, HNE.out]; rfl))
        have HP := Lib.hid hp
        clear hp
        go_wp2
        go_quiet ((go_at_call 84; exact quiet_on (l11In_at _ _ (colT T) _ _ (getR T j) (getR T K) _ _ HP.out (ints_drewN HI.out.1 _) (ints_drewN HI.out.2 _) hm100)))
        rename_i nq
        have R3 := Lib.hid (rowBelow HR.out (below_drewN (Below.refl _ _) nq))
        have B3 := Lib.hid (below_drewN HFF.out nq)
        clear hc hc3
        generalize wr.drewN nq = w4 at *
        have hszw := B3.out.size
        have HZV := Lib.hid (rowBase R3.out)
        go_wp2_with (at_builtin; refine wpList_append_lies _ rfl _ _ 27 rfl w1.heap.size 2 ii _ 1 8 Try.underlying27 HF.out.1 HF.out.2.1 HF.out.2.2.1 HF.out.2.2.2 rfl (by omega) _ s _ rfl (rowBelow R3.out ((Below.refl _ _).alloc (Nat.le_refl _) _)) ⟨w4.heap.size, 0, none⟩ 1 1 [(.int .i64 (j : Int))] rfl rfl (World.news_of_block (cs := #[(.int .i64 (j : Int))]) (t := 2) (fr := (0, 0)) (heap_alloc_new w4 _)) (by simp [Value.oneCell']) (by omega) (by unfold maxLen; omega) (by omega) (by simp; omega) (w4.heap.size + 1) (by simp) ?_; intro gg cap w5 hown1 hgrow hat hlt3)
        have R5 : Hid (w5.ownsRow w1.heap.size 2 1 (.slice (some ⟨gg, 0, none⟩) (s + 1) cap) (s + 1) (intsV (whereL (ciP T K) (j + 1)))) := Lib.hid (by rw [HN2.out, ← intsV_snoc]; exact hown1)
        have Q5 : Hid ((whereL (ciP T K) (j + 1)).length = s + 1) := Lib.hid (by rw [HN2.out, List.length_append, HQ.out]; rfl)
        have B5 := Lib.hid ((B3.out.alloc B3.out.size (.cells #[.int .i64 (j : Int)] 2)).grown hgrow (by simp; omega) (fun q e => by have := HZV.out q e; omega))
        clear hown1 hgrow hat hlt3
        go_wp2
        go_roundw
        case rel => exact ⟨j + 1, s + 1, _, by omega, by go_num, rfl, by omega, Q5, R5, B5⟩
        case measure => simp [intOf]; omega
    · obtain rfl : j = n := by omega
      obtain ⟨A2, c2, e, ho, h1, h2⟩ := rowInts HR.out HQ.out
      injection e with e1 e2 e3
      subst e1; subst e3
      have HO := Lib.hid (ho.more hlw (Nat.le_refl _) (Nat.le_refl _))
      have q1 : s ≤ 1048576 := by omega
      clear ho
      go_wp2
      go_ret2
      exact ⟨_, s, _, rfl, HO.out, q1, h1, h2, HBB.out⟩

set_option maxRecDepth 100000 in
set_option maxHeartbeats 4000000 in
theorem specMasterKeys_any (V : Option Addr) (n c : Nat) (T : List (List Int)) (w : World) (h : Sets w w.heap.size V n T) (hn : n + sizeL T ≤ 1048576) :
    Calls Try.prog 47 #[.slice V n c] w (GivesList w (tE T) (mkT T)) := by
  have HL := Lib.hid h.len
  have HN := Lib.hid hn
  have H := Lib.hid h
  clear h hn
  obtain ⟨ii, hi0, hz0, hz1, hz2⟩ := info_parts Try.info2'
  have HF := Lib.hid (And.intro hi0 (And.intro hz0 (And.intro hz1 hz2)))
  clear hi0 hz0 hz1 hz2
  rcases hb : tabB T with _ | _
  · have HV : Hid (mkT T = [] ∧ tE T = 1) := Lib.hid (by unfold mkT tE; rw [hb]; exact ⟨rfl, rfl⟩)
    rw [HV.out.1, HV.out.2]
    go_enter Try.func47, Try.ntmps47
    go_wp2_with fail
    refine (specIsTable_any V n c T _ H.out HN.out).mono ?_
    rw [hb]
    rintro e w1 ⟨rfl, b1⟩
    have C1 := Lib.hid b1
    clear b1 hb
    go_wp2
    go_ret2
    exact ⟨none, 0, 0, rfl, Own.nil _ (Nat.le_refl _), by omega, by omega, by omega, C1.out⟩
  have HV : Hid (mkT T = whereL (mkP T) n ∧ tE T = 0) := Lib.hid (by
    have e : tE T = 0 := by unfold tE; rw [hb]; rfl
    exact ⟨by unfold mkT; rw [e, if_pos rfl, HL.out], e⟩)
  rw [HV.out.1, HV.out.2]
  have hm := (tabB_true hb).2.1
  have hm100 : colT T ≤ 1048576 := by omega
  have HB := Lib.hid hb
  have hn10 : n ≤ 10 := by have := (tabB_true hb).1; have := HL.out; omega
  clear hb hm
  go_enter Try.func47, Try.ntmps47
  go_wp2_with fail
  refine (specIsTable_any V n c T _ H.out HN.out).mono ?_
  rw [HB.out]
  rintro e w1 ⟨rfl, b1⟩
  have R2 := Lib.hid (rowNil (w := w1) (t := 2) (s := 1) (base := w1.heap.size) (Nat.le_refl _))
  have C1 := Lib.hid b1
  have C2 := Lib.hid (below_boxT w1 (.cells #[] 2))
  have hlw : w.heap.size ≤ w1.heap.size := b1.size
  clear b1
  go_wp2
  go_loopw [4, 5] (fun y x wr => ∃ (j s : Nat) (pv : Value), j ≤ n ∧ x = .int .i64 j ∧ y = pv ∧ s ≤ j ∧ Hid ((whereL (mkP T) j).length = s) ∧ Hid (wr.ownsRow w1.heap.size 2 1 pv s (intsV (whereL (mkP T) j))) ∧ Hid (Below w1.heap.size w1 wr)) (fun _ x _ => n - (intOf x).toNat)
  case atStart => exact ⟨0, 0, _, Nat.zero_le _, rfl, rfl, Nat.le_refl _, Lib.hid rfl, R2, C2⟩
  case round =>
    obtain ⟨j, s, pv, hj, rfl, rfl, hs, HQ, HR, HFF⟩ := hrel
    clear R2 C2
    have HBB := Lib.hid (below_trans' C1.out HFF.out)
    obtain ⟨A1, c1, rfl, _, _, _⟩ := rowInts HR.out HQ.out
    by_cases hlt : j < n
    · obtain ⟨ad, A2, c2, rfl, hab, _, hc, hi, _, _⟩ := tab_at (H.out.on HBB.out) HB.out rfl hlt
      have HI := Lib.hid hi
      have i0 : (0 : Int) ≤ (j : Int) := by omega
      have i1 : (j : Int) < (n : Int) := by omega
      clear hi hab
      rcases hp : (getR T j).any (fun y => decide (y = 0)) with _ | _
      · have HN2 := Lib.hid (where_yes (p := mkP T) (k := j) (by unfold mkP; rw [hp]; rfl))
        have HP := Lib.hid hp
        clear hp
        have hszw := HFF.out.size
        have HZV := Lib.hid (rowBase HR.out)
        go_wp2_with (first
          | (go_at_call 96; (with_reducible refine (l01Has_at _ _ _ (getR T j) _ _ _ HI.out hm100 HP.out).mono ?_); rintro e w' ⟨rfl, rfl⟩)
          | (at_builtin; refine wpList_append_lies _ rfl _ _ 27 rfl w1.heap.size 2 ii _ 1 8 Try.underlying27 HF.out.1 HF.out.2.1 HF.out.2.2.1 HF.out.2.2.2 rfl (by omega) _ s _ rfl (rowBelow HR.out ((Below.refl _ _).alloc (Nat.le_refl _) _)) ⟨wr.heap.size, 0, none⟩ 1 1 [(.int .i64 (j : Int))] rfl rfl (World.news_of_block (cs := #[(.int .i64 (j : Int))]) (t := 2) (fr := (0, 0)) (heap_alloc_new wr _)) (by simp [Value.oneCell']) (by omega) (by unfold maxLen; omega) (by omega) (by simp; omega) (wr.heap.size + 1) (by simp) ?_; intro gg cap w5 hown1 hgrow hat hlt3))
        have R5 : Hid (w5.ownsRow w1.heap.size 2 1 (.slice (some ⟨gg, 0, none⟩) (s + 1) cap) (s + 1) (intsV (whereL (mkP T) (j + 1)))) := Lib.hid (by rw [HN2.out, ← intsV_snoc]; exact hown1)
        have Q5 : Hid ((whereL (mkP T) (j + 1)).length = s + 1) := Lib.hid (by rw [HN2.out, List.length_append, HQ.out]; rfl)
        have B5 := Lib.hid ((HFF.out.alloc HFF.out.size (.cells #[.int .i64 (j : Int)] 2)).grown hgrow (by simp; omega) (fun q e => by have := HZV.out q e; omega))
        clear hown1 hgrow hat hlt3
        go_wp2
        go_roundw
        case rel => exact ⟨j + 1, s + 1, _, by omega, by go_num, rfl, by omega, Q5, R5, B5⟩
        case measure => simp [intOf]; omega
      · have HN2 := Lib.hid (where_no (p := mkP T) (k := j) (by unfold mkP; rw [hp]; rfl))
        have HP := Lib.hid hp
        clear hp
        go_wp2_with (go_at_call 96; (with_reducible refine (l01Has_at _ _ _ (getR T j) _ _ _ HI.out hm100 HP.out).mono ?_); rintro e w' ⟨rfl, rfl⟩)
        go_roundw
        case rel => exact ⟨j + 1, s, _, by omega, by go_num, rfl, by omega, Lib.hid (by rw [HN2.out]; exact HQ.out), Lib.hid (by rw [HN2.out]; exact HR.out), HFF⟩
        case measure => simp [intOf]; omega
    · obtain rfl : j = n := by omega
      obtain ⟨A2, c2, e, ho, h1, h2⟩ := rowInts HR.out HQ.out
      injection e with e1 e2 e3
      subst e1; subst e3
      have HO := Lib.hid (ho.more hlw (Nat.le_refl _) (Nat.le_refl _))
      have q1 : s ≤ 1048576 := by omega
      clear ho
      go_wp2
      go_ret2
      exact ⟨_, s, _, rfl, HO.out, q1, h1, h2, HBB.out⟩

end Go.Proofs.Ytidjnnooeepklaa
