/- The law of blanks: its walk. -/
import Derived.Test.YtiijkcebloefbaaDoorDrawX
import Derived.Test.YtiijkcebloefbaaDoorExactP
import Derived.Test.YtiijkcebloefbaaDoorExactB
import Derived.Test.YtiijkcebloefbaaDoorCBlank
import Derived.Test.YtiijkcebloefbaaDoorFnBase
namespace Go.Proofs.YtiijkcebloefbaaDoor
open Go.RowKit

theorem com_form (xs : List Int) : ∀ a : Nat, ∃ M, xs.foldl (fun a v => a &&& v.toNat) a = a &&& M := by
  induction xs with
  | nil => intro a; exact ⟨a, (Nat.and_self a).symm⟩
  | cons x r ih =>
    intro a
    obtain ⟨M, hM⟩ := ih (a &&& x.toNat)
    exact ⟨x.toNat &&& M, by rw [List.foldl_cons, hM, Nat.and_assoc]⟩
theorem com_absorb (xs : List Int) : ∀ (a : Nat) (v : Int), v ∈ xs → xs.foldl (fun a v => a &&& v.toNat) a &&& v.toNat = xs.foldl (fun a v => a &&& v.toNat) a := by
  induction xs with
  | nil => intro a v h; cases h
  | cons x r ih =>
    intro a v h
    rw [List.foldl_cons]
    rcases List.mem_cons.1 h with rfl | h
    · obtain ⟨M, hM⟩ := com_form r (a &&& v.toNat)
      rw [hM, Nat.and_assoc, Nat.and_comm M, ← Nat.and_assoc, Nat.and_assoc a, Nat.and_self]
    · exact ih _ v h
/-- the common blank enters each keyway -/
theorem com_enters {xs : List Int} {v : Int} (h : waysB xs = true) (hv : v ∈ xs) : ewV (cwV xs) v = true ∧ ewE (cwV xs) v = 0 := by
  obtain ⟨k, hk⟩ := List.getElem?_of_mem hv
  obtain ⟨v0, v1⟩ := allIn_at (waysB_true h).2 hk
  have hc := com_le xs
  rw [(cw_yes h).1]
  obtain ⟨e1, e2⟩ := ew_yes (b := (comN xs : Nat)) (v := v) (inB_true.2 (by omega)) (inB_true.2 (by omega))
  refine ⟨?_, e2⟩
  rw [e1]
  unfold entB
  rw [beq_iff_eq, Int.toNat_natCast]
  have := com_absorb xs 4095 v hv
  unfold comN
  rw [this]
theorem ce_ok {xs ys : List Int} (h : ceE xs ys = 0) : exOk xs ys = true := by
  rcases hx : exOk xs ys with _ | _
  · rw [(ce_no hx).2] at h; cases h
  · rfl
theorem ex_head {xs ys : List Int} {v : Int} {l : List Int} (hx : exOk xs ys = true) (h : exI xs ys 4096 = v :: l) : woE v xs = 0 ∧ woL v xs = ys := by
  have hv : v ∈ exI xs ys 4096 := by rw [h]; simp
  unfold exI at hv
  obtain ⟨b, hb, rfl⟩ := List.mem_map.1 hv
  obtain ⟨hb1, hb2⟩ := List.mem_filter.1 hb
  have hb3 := List.mem_range.1 hb1
  have hw : waysB xs = true := by unfold exOk at hx; rw [Bool.and_eq_true] at hx; exact hx.1
  obtain ⟨e1, e2⟩ := wo_yes (b := (b : Int)) (xs := xs) rfl (inB_true.2 (by omega)) hw
  refine ⟨e2, ?_⟩
  rw [e1]
  unfold exP at hb2
  simpa using hb2

set_option maxRecDepth 100000 in
set_option maxHeartbeats 8000000 in
theorem fnBlanks_any (A : Option Addr) (n c : Nat) (w : World) (h : Bts w w.heap.size A n) (htab : Lib.TabBelow Tryd.prog w.heap.size w "loop.example/g00947/impl.nibbleBits" .i64 nibTab) :
    Calls Tryd.prog 3 #[.slice A n c] w fun e w' => e = .returned (.bool true) ∧ Below w.heap.size w w' := by
  by_cases hn : n ≤ 4096
  · have d0 : decide (4096 < (n : Int)) = false := by simp; omega
    have HB := Lib.hid h
    have HTB := Lib.hid htab
    clear h htab
    go_enter Tryd.func3, Tryd.ntmps3
    go_wp2_with fail
    refine (big_any _ _ _ _).mono ?_
    rintro e w' ⟨rfl, rfl⟩
    rw [d0]
    clear d0
    go_wp2_with fail
    refine (drawExact_any w.heap.size A n c w HB.out (Nat.le_refl _) hn).mono ?_
    rintro e w1 ⟨D, m, d, ws, E, q, f, ys, rfl, x1, y1, hm, hq, b1⟩
    go_wp2_with fail
    refine (exactBlank_any _ _ _ ws _ _ _ ys _ x1 (by omega) y1 (by omega)).mono ?_
    rintro e w2 ⟨rfl, b2⟩
    have x2 := x1.on b2
    have y2 := y1.on b2
    have c2 := below_trans' b1 b2
    clear b1 b2 x1 y1
    go_wp2_with fail
    refine (specExactBlank_any _ _ _ ws _ _ _ ys _ x2 (by omega) y2 (by omega)).mono ?_
    rintro e w3 ⟨rfl, b3⟩
    have x3 := x2.on b3
    have y3 := y2.on b3
    have c3 := below_trans' c2 b3
    clear c2 b3 x2 y2
    go_wp2_with fail
    refine (countExact_any _ _ _ ws _ _ _ ys _ x3 (by omega) y3 (by omega)).mono ?_
    rintro e w4 ⟨rfl, b4⟩
    have x4 := x3.on b4
    have y4 := y3.on b4
    have c4 := below_trans' c3 b4
    clear c3 b4 x3 y3
    go_wp2_with fail
    refine (specCountExact_any _ _ _ ws _ _ _ ys _ x4 (by omega) y4 (by omega)).mono ?_
    rintro e w5 ⟨rfl, b5⟩
    have x5 := x4.on b5
    have y5 := y4.on b5
    have c5 := below_trans' c4 b5
    have HB5 := Lib.hid (HB.out.keep (w' := w5) (fun p hp => c5.cell hp))
    have s5 := c5.size
    clear c4 b5 x4 y4
    go_wp2_with fail
    refine (commonWay_any _ _ _ ws _ x5 (by omega)).mono ?_
    rintro e w' ⟨rfl, rfl⟩
    go_wp2_with fail
    refine (specCommonWay_any _ _ _ ws _ x5 (by omega)).mono ?_
    rintro e w' ⟨rfl, rfl⟩
    go_wp2_with fail
    refine (drawCountBlanks_any w.heap.size A n c w5 HB5.out s5 hn).mono ?_
    rintro e w6 ⟨p, rfl, b6⟩
    have x6 := x5.on b6
    have y6 := y5.on b6
    have C6 := Lib.hid (below_trans' c5 b6)
    have HT6 := Lib.hid (HTB.out w6 C6.out)
    clear c5 b6 x5 y5 HB5 s5
    go_wp2_with fail
    refine (countBlanks_any p _ HT6.out).mono ?_
    rintro e w' ⟨rfl, rfl⟩
    go_wp2_with fail
    refine (specCountBlanks_any p _).mono ?_
    rintro e w' ⟨rfl, rfl⟩
    have f1 : (xbE ws ys != xbE ws ys) = false := by simp
    have f2 : (xbV ws ys != xbV ws ys) = false := by simp
    have f3 : (ceE ws ys != ceE ws ys) = false := by simp
    have f4 : (ceV ws ys != ceV ws ys) = false := by simp
    have f5 : (cwE ws != cwE ws) = false := by simp
    have f6 : (cwV ws != cwV ws) = false := by simp
    have f7 : (cbE p != cbE p) = false := by simp
    have f8 : (cbV p != cbV p) = false := by simp
    rcases k0 : (ceE ws ys == 0) with _ | _
    · go_wp2
      go_ret
      exact ⟨rfl, C6.out⟩
    have hz : ceE ws ys = 0 := by simpa using k0
    have hok := ce_ok hz
    have g0 : (ceE ws ys != 0) = false := by rw [hz]; rfl
    have HW : Hid (waysB ws = true) := Lib.hid (by unfold exOk at hok; rw [Bool.and_eq_true] at hok; exact hok.1)
    rcases hx : exI ws ys 4096 with _ | ⟨v, l⟩
    · have g1 : (xbE ws ys == 0) = false := by rw [(xb_none hok hx).2]; rfl
      have g2 : decide (0 < ceV ws ys) = false := by rw [(ce_yes hok).1, hx]; rfl
      clear hz hok hx
      go_wp2
      go_loop [22] (fun i => ∃ k : Nat, k ≤ m ∧ i = .int .i64 k) (fun i => m - (intOf i).toNat)
      case atStart => exact ⟨0, Nat.zero_le _, rfl⟩
      case round =>
        obtain ⟨k, hk, rfl⟩ := hrel
        by_cases hlt : k < m
        · obtain ⟨ad, u, rfl, hab, hu, hc⟩ := x6.at_ hlt
          have HU := Lib.hid (com_enters HW.out (List.mem_of_getElem? hu))
          clear hu
          go_wp2_with fail
          refine (entersWay_any (cwV ws) u _).mono ?_
          rw [HU.out.1, HU.out.2]
          rintro e w' ⟨rfl, rfl⟩
          go_wp2
          go_round
          case rel => exact ⟨k + 1, by omega, by go_num⟩
          case measure => simp [intOf]; omega
        · go_wp2
          go_ret
          exact ⟨rfl, C6.out⟩
    · have g1 : (xbE ws ys == 0) = true := by rw [(xb_yes hok hx).2]; rfl
      have g2 : decide (0 < ceV ws ys) = true := by rw [(ce_yes hok).1, hx]; simp
      have g3 : xbV ws ys = v := (xb_yes hok hx).1
      have HV := Lib.hid (ex_head hok hx)
      clear hz hok hx
      go_wp2
      go_loop [22] (fun i => ∃ k : Nat, k ≤ m ∧ i = .int .i64 k) (fun i => m - (intOf i).toNat)
      case atStart => exact ⟨0, Nat.zero_le _, rfl⟩
      case round =>
        obtain ⟨k, hk, rfl⟩ := hrel
        by_cases hlt : k < m
        · obtain ⟨ad, u, rfl, hab, hu, hc⟩ := x6.at_ hlt
          have HU := Lib.hid (com_enters HW.out (List.mem_of_getElem? hu))
          clear hu
          go_wp2_with fail
          refine (entersWay_any (cwV ws) u _).mono ?_
          rw [HU.out.1, HU.out.2]
          rintro e w' ⟨rfl, rfl⟩
          go_wp2
          go_round
          case rel => exact ⟨k + 1, by omega, by go_num⟩
          case measure => simp [intOf]; omega
        · go_wp2_with fail
          refine (waysOf_any v _ _ _ ws _ x6 (by omega)).mono ?_
          rw [HV.out.1, HV.out.2]
          rintro e w7 ⟨Ag, ng, cg, rfl, og, hng, _, _, b7⟩
          have y7 := y6.on b7
          have g7 := og.ints
          have C7 := Lib.hid (below_trans' C6.out b7)
          obtain rfl : ng = q := by rw [← g7.len, ← y7.len]
          clear b7 og C6
          go_wp2_with fail
          refine (likeInts_true _ _ _ _ _ _ _ g7 y7 hng).mono ?_
          rintro e w8 ⟨rfl, b8⟩
          have c8 := below_trans' C7.out b8
          go_wp2
          go_ret
          exact ⟨rfl, c8⟩
  · have d0 : decide (4096 < (n : Int)) = true := by simp; omega
    go_enter Tryd.func3, Tryd.ntmps3
    go_wp2_with fail
    refine (big_any _ _ _ _).mono ?_
    rintro e w' ⟨rfl, rfl⟩
    rw [d0]
    go_wp2
    go_ret
    exact ⟨rfl, Below.refl _ _⟩

end Go.Proofs.YtiijkcebloefbaaDoor
