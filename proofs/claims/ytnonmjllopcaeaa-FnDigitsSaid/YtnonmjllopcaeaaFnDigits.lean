/- The law of digits: its walk. -/
import Derived.Test.YtnonmjllopcaeaaDrawNumb
import Derived.Test.YtnonmjllopcaeaaNumb2
import Derived.Test.YtnonmjllopcaeaaDigMath
import Derived.Test.YtnonmjllopcaeaaFnChoices
namespace Go.Proofs.Ytnonmjllopcaeaa
open Go.RowKit

theorem likeInts_true (A A' : Option Addr) (n c c' : Nat) (xs : List Int) (w : World) (h : Ints w w.heap.size A n xs) (h' : Ints w w.heap.size A' n xs) (hn : n ≤ 1048576) :
    Calls Try.prog 30 #[.slice A n c, .slice A' n c'] w fun e w' => e = .returned (.bool true) ∧ Below w.heap.size w w' := by
  go_enter Try.func30, Try.ntmps30
  go_wp2
  go_loopw [5] (fun i wr => ∃ k : Nat, k ≤ n ∧ i = .int .i64 k ∧ Below w.heap.size w wr) (fun i _ => n - (intOf i).toNat)
  case atStart => exact ⟨0, Nat.zero_le _, rfl, Below.refl _ _⟩
  case round =>
    obtain ⟨k, hk, rfl, hb⟩ := hrel
    by_cases hlt : k < n
    · obtain ⟨ad, v, rfl, hab, hv, hc⟩ := (h.below hb).at_ hlt
      obtain ⟨ad', v', rfl, hab', hv', hc'⟩ := (h'.below hb).at_ hlt
      obtain rfl : v = v' := by rw [hv] at hv'; injection hv'
      clear hv hv'
      go_wp2
      go_quiet (fail)
      go_wp2
      go_roundw
      case rel => exact ⟨k + 1, by omega, by go_num, below_drewN hb _⟩
      case measure => simp [intOf]; omega
    · go_wp2
      go_ret
      exact ⟨rfl, hb⟩

set_option maxRecDepth 100000 in
set_option maxHeartbeats 4000000 in
theorem fnDigits_any (A : Option Addr) (n c : Nat) (w : World) (h : Bts w w.heap.size A n) :
    Calls Try.prog 5 #[.slice A n c] w fun e w' => e = .returned (.bool true) ∧ Below w.heap.size w w' := by
  by_cases hn : n ≤ 4096
  · have d0 : decide (4096 < (n : Int)) = false := by simp; omega
    have HB := Lib.hid h
    clear h
    go_enter Try.func5, Try.ntmps5
    go_wp2_with fail
    refine (big_any _ _ _ _).mono ?_
    rintro e w' ⟨rfl, rfl⟩
    rw [d0]
    clear d0
    go_wp2_with fail
    refine (drawDigits_any w.heap.size A n c w HB.out (Nat.le_refl _) hn).mono ?_
    rintro e w1 ⟨r, D, m, d, xs, rfl, hx1, hm, b1⟩
    have hi1 := hx1.ints
    clear hx1
    go_wp2_with fail
    refine (digitsOf_any r _ _ _ xs _ hi1 (by omega)).mono ?_
    rintro e w2 ⟨E, p, f, rfl, ho2, hp, b2⟩
    have hd2 := ho2.ints
    have hi2 := hi1.on b2
    have b2' := below_trans' b1 b2
    have L2 := Lib.hid hd2.len
    clear b1 b2 hi1 ho2
    go_wp2_with fail
    refine (specDigitsOf_any r _ _ _ xs _ hi2 (by omega)).mono ?_
    rintro e w3 ⟨E', p', f', rfl, ho3, hp', b3⟩
    have hs3 := ho3.ints
    obtain rfl : p = p' := by rw [← L2.out, ← hs3.len]
    have hd3 := hd2.on b3
    have hi3 := hi2.on b3
    have b3' := below_trans' b2' b3
    have HB3 := Lib.hid (HB.out.keep (w' := w3) (fun p hp => b3'.cell hp))
    have s3 := b3'.size
    clear b2' b3 hd2 hi2 ho3
    go_wp2_with fail
    refine (drawNumberOf_any w.heap.size A n c w3 HB3.out s3 hn).mono ?_
    rintro e w4 ⟨G, q, o, ds, G', q', o', bs, rfl, hg4, hg4', hq, hq', b4⟩
    have hs4 := hs3.on b4
    have hd4 := hd3.on b4
    have hi4 := hi3.on b4
    have b4' := below_trans' b3' b4
    have hds4 := hg4.ints
    have hbs4 := hg4'.ints
    clear b3' b4 hs3 hd3 hi3 hg4 hg4' HB3 s3
    go_wp2_with fail
    refine (numberOf_any _ _ _ _ _ _ ds bs _ hds4 hbs4 (by omega) (by omega)).mono ?_
    rintro e w' ⟨rfl, rfl⟩
    go_wp2_with fail
    refine (specNumberOf_any _ _ _ _ _ _ ds bs _ hds4 hbs4 (by omega)).mono ?_
    rintro e w5 ⟨rfl, b5⟩
    have hs5 := hs4.on b5
    have hd5 := hd4.on b5
    have hi5 := hi4.on b5
    have hds5 := hds4.on b5
    have hbs5 := hbs4.on b5
    have b5' := below_trans' b4' b5
    clear b4' b5 hs4 hd4 hi4 hds4 hbs4
    go_wp2_with fail
    refine (likeInts_true _ _ _ _ _ _ _ hd5 hs5 hp).mono ?_
    rintro e w6 ⟨rfl, b6⟩
    have hd6 := hd5.on b6
    have hi6 := hi5.on b6
    have hds6 := hds5.on b6
    have hbs6 := hbs5.on b6
    have b6' := below_trans' b5' b6
    have hq1 := hds6.len
    have hq2 := hd6.len
    clear b5' b6 hs5 hd5 hi5 hds5 hbs5
    have HQ1 := Lib.hid hq1
    have HQ2 := Lib.hid hq2
    clear hq1 hq2
    go_upto_if 75 with (fail)
    go_cut [] (fun wx => Below w6.heap.size w6 wx)
    case first =>
      rcases k0 : (numE ds bs == 0) with _ | _
      · go_wp2_with fail
        go_meet
        exact Below.refl _ _
      · obtain ⟨e1, e2⟩ := digits_back (show numE ds bs = 0 by simpa using k0)
        have E1 := Lib.hid e1
        have E2 := Lib.hid e2
        clear e1 e2
        go_wp2_with fail
        refine (digitsOf_any _ _ _ _ bs _ hbs6 (by omega)).mono ?_
        rw [E1.out, E2.out]
        rintro e w7 ⟨F, t, u, rfl, ho7, ht, b7⟩
        have hd7 := ho7.ints
        have hds7 := hds6.on b7
        obtain rfl : t = q := by rw [← hd7.len, ← hds7.len]
        have b7' := b7
        clear ho7 b7
        go_wp2_with fail
        refine (likeInts_true _ _ _ _ _ _ _ hd7 hds7 (by omega)).mono ?_
        rintro e w8 ⟨rfl, b8⟩
        have b8' := below_trans' b7' b8
        go_wp2_with fail
        go_meet
        exact b8'
    case rest =>
      rcases k0 : (digE r xs == 0) with _ | _
      · have b8 := below_trans' b6' hcut
        go_wp2
        go_ret
        exact ⟨rfl, b8⟩
      · obtain ⟨e1, e2⟩ := number_back (show digE r xs = 0 by simpa using k0)
        have E1 := Lib.hid e1
        have E2 := Lib.hid e2
        have hd8 := hd6.on hcut
        have hi8 := hi6.on hcut
        have b8 := below_trans' b6' hcut
        clear e1 e2 hcut
        go_wp2_with fail
        refine (numberOf_any _ _ _ _ _ _ _ _ _ hd8 hi8 (by omega) (by omega)).mono ?_
        rw [E1.out, E2.out]
        rintro e w' ⟨rfl, rfl⟩
        go_wp2
        go_ret
        exact ⟨rfl, b8⟩
  · have d0 : decide (4096 < (n : Int)) = true := by simp; omega
    go_enter Try.func5, Try.ntmps5
    go_wp2_with fail
    refine (big_any _ _ _ _).mono ?_
    rintro e w' ⟨rfl, rfl⟩
    rw [d0]
    go_wp2
    go_ret
    exact ⟨rfl, Below.refl _ _⟩

end Go.Proofs.Ytnonmjllopcaeaa
