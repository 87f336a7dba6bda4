/- CountBlanks of the program and of the model, and its law. -/
import Derived.Test.YtiijkcebloefbaaDoorWay
import Derived.Lib.AppendIntMem
import Derived.Lib.LaidTab
namespace Go.Proofs.YtiijkcebloefbaaDoor
open Go.RowKit

/-- the ones among the k lowest bits -/
def pcF : Nat → Nat → Nat
  | 0, _ => 0
  | k + 1, s => s % 2 + pcF k (s / 2)
theorem pcF_le : ∀ k s, pcF k s ≤ k
  | 0, _ => Nat.le_refl _
  | k + 1, s => by have := pcF_le k (s / 2); unfold pcF; omega
theorem pcF_four (k s : Nat) : pcF (k + 4) s = pcF 4 (s % 16) + pcF k (s / 16) := by
  have e : s / 2 / 2 / 2 / 2 = s / 16 := by omega
  show s % 2 + (s / 2 % 2 + (s / 2 / 2 % 2 + (s / 2 / 2 / 2 % 2 + pcF k (s / 2 / 2 / 2 / 2)))) = (s % 16 % 2 + (s % 16 / 2 % 2 + (s % 16 / 2 / 2 % 2 + (s % 16 / 2 / 2 / 2 % 2 + 0)))) + pcF k (s / 16)
  rw [e]
  omega
def nibTab : List Int := [0, 1, 1, 2, 1, 2, 2, 3, 1, 2, 2, 3, 2, 3, 3, 4]
theorem nib_at : ∀ i, i < 16 → nibTab.getD i 0 = ((pcF 4 i : Nat) : Int) := by decide
def cbV (n : Int) : Int := if inB n 0 4095 then ((2 ^ pcF 12 n.toNat : Nat) : Int) else 0
def cbE (n : Int) : Int := if inB n 0 4095 then 0 else 2
theorem cb_no {n : Int} (h : inB n 0 4095 = false) : cbV n = 0 ∧ cbE n = 2 := by simp [cbV, cbE, h]
theorem cb_yes {n : Int} (h : inB n 0 4095 = true) : cbV n = ((2 ^ pcF 12 n.toNat : Nat) : Int) ∧ cbE n = 0 := by simp [cbV, cbE, h]
theorem pow_le12 {q : Nat} (h : q ≤ 12) : 2 ^ q ≤ 4096 := Nat.pow_le_pow_right (n := 2) (by omega) h
theorem pow_wrap : ∀ q, q ≤ 12 → IntKind.i64.wrap (2 ^ q) = ((2 ^ q : Nat) : Int) := by decide
theorem gNib : Tryd.prog.globalNamed "loop.example/g00947/impl.nibbleBits" = some 0 := by kernel_rfl

set_option maxRecDepth 100000 in
theorem size_any (s : Nat) (hs : s < 4096) (w : World) (htab : Lib.TabIs Tryd.prog w "loop.example/g00947/impl.nibbleBits" .i64 nibTab) :
    Calls Tryd.prog 31 #[.int .u16 (s : Int)] w fun e w' => e = .returned (.int .i64 ((pcF 12 s : Nat) : Int)) ∧ w = w' := by
  have HT := Lib.hid htab
  clear htab
  go_enter Tryd.func31, Tryd.ntmps31
  go_wp2
  go_loop [0, 3] (fun r x => ∃ q a b : Nat, r = .int .u16 (a : Int) ∧ x = .int .i64 (b : Int) ∧ q ≤ 3 ∧ Hid (a < 16 ^ q) ∧ Hid (b + pcF (4 * q) a = pcF 12 s)) (fun r _ => (intOf r).toNat)
  case atStart => exact ⟨3, s, 0, rfl, rfl, Nat.le_refl _, Lib.hid hs, Lib.hid (by simp)⟩
  case round =>
    obtain ⟨q, a, b, rfl, rfl, hq, ha, hb⟩ := hrel
    have hal : a < 4096 := Nat.lt_of_lt_of_le ha.out (Nat.pow_le_pow_right (n := 16) (by omega) hq)
    have hbl : b ≤ 12 := by have := pcF_le 12 s; have := hb.out; omega
    by_cases h0 : 0 < a
    · obtain ⟨p, rfl⟩ : ∃ p, q = p + 1 := by
        rcases q with _ | p
        · have := ha.out; simp at this; omega
        · exact ⟨p, rfl⟩
      have h0' : (0 : Int) < (a : Int) := by omega
      have ea : bits .and .u16 (a : Int) 15 = ((a % 16 : Nat) : Int) := by
        have := u16_and_nat a 15 (by omega) (by omega)
        rw [nat_mask4] at this
        exact this
      obtain ⟨i, hi⟩ : ∃ i, a % 16 = i := ⟨_, rfl⟩
      have i16 : i < 16 := by omega
      have hc := HT.out.cell gNib i (by exact i16)
      rw [nib_at i i16] at hc
      have h4 := pcF_le 4 i
      obtain ⟨d, hd⟩ : ∃ d, pcF 4 i = d := ⟨_, rfl⟩
      rw [hi] at ea
      rw [hd] at hc h4
      have j0 : (0 : Int) ≤ (i : Int) := by omega
      have j1 : (i : Int) < 16 := by omega
      have HN : Hid (b + d + pcF (4 * p) (a / 16) = pcF 12 s) := Lib.hid (by
        have := hb.out
        rw [show 4 * (p + 1) = 4 * p + 4 by omega, pcF_four, hi, hd] at this
        omega)
      have HA2 : Hid (a / 16 < 16 ^ p) := Lib.hid (by
        have := ha.out
        rw [Nat.pow_succ] at this
        omega)
      obtain ⟨a2, ha2⟩ : ∃ a2, a / 16 = a2 := ⟨_, rfl⟩
      have e16 : (a : Int) / 16 = (a2 : Int) := by omega
      have a2l : a2 < a := by omega
      rw [ha2] at HN HA2
      clear hi hd ha2
      go_wp2
      go_round
      case rel => exact ⟨p, a2, b + d, by go_num, by go_num, by omega, HA2, HN⟩
      case measure => simp [intOf]; omega
    · have HE : Hid (b = pcF 12 s) := Lib.hid (by
        have := hb.out
        obtain rfl : a = 0 := by omega
        have z : ∀ k, pcF k 0 = 0 := fun k => by
          induction k with
          | zero => rfl
          | succ k ih => show 0 % 2 + pcF k (0 / 2) = 0; simpa using ih
        rw [z] at this
        omega)
      obtain rfl : a = 0 := by omega
      go_wp2
      go_ret
      exact ⟨ret_int (by rw [← HE.out]), rfl⟩

theorem countBlanks_any (n : Int) (w : World) (htab : Lib.TabIs Tryd.prog w "loop.example/g00947/impl.nibbleBits" .i64 nibTab) :
    Calls Tryd.prog 14 #[.int .i64 n] w fun e w' => e = .returned (.tuple #[.int .i64 (cbV n), .int .i64 (cbE n)]) ∧ w = w' := by
  rcases hq : inB n 0 4095 with _ | _
  · rw [(cb_no hq).1, (cb_no hq).2]
    clear htab
    go_enter Tryd.func14, Tryd.ntmps14
    go_wp2_with (go_at_call 30; refine (isProfile_any _ _).mono ?_; rintro e w' ⟨rfl, rfl⟩)
    go_ret2
    exact ⟨rfl, rfl⟩
  · rw [(cb_yes hq).1, (cb_yes hq).2]
    obtain ⟨n0, n1⟩ := inB_true.1 hq
    obtain ⟨N, rfl⟩ := Int.eq_ofNat_of_zero_le n0
    have hN : N < 4096 := by omega
    rw [Int.toNat_natCast]
    have hp := pcF_le 12 N
    have hw := pow_wrap (pcF 12 N) hp
    have HS := Lib.hid (size_any N hN w htab)
    have hpp := pow_le12 hp
    generalize pcF 12 N = q at *
    have q0 : (0 : Int) ≤ (q : Int) := by omega
    clear htab
    go_enter Tryd.func14, Tryd.ntmps14
    go_wp2_with (first | (go_at_call 30; refine (isProfile_any _ _).mono ?_; rintro e w' ⟨rfl, rfl⟩) | (go_at_call 31; refine HS.out.mono ?_; rintro e w' ⟨rfl, rfl⟩))
    go_ret2
    exact ⟨rfl, rfl⟩

set_option maxRecDepth 100000 in
theorem specCountBlanks_any (n : Int) (w : World) :
    Calls Tryd.prog 15 #[.int .i64 n] w fun e w' => e = .returned (.tuple #[.int .i64 (cbV n), .int .i64 (cbE n)]) ∧ w = w' := by
  rcases hq : inB n 0 4095 with _ | _
  · rw [(cb_no hq).1, (cb_no hq).2]
    go_enter Tryd.func15, Tryd.ntmps15
    go_wp2_with (go_at_call 32; refine (l06Profile_any _ _).mono ?_; rintro e w' ⟨rfl, rfl⟩)
    go_ret2
    exact ⟨rfl, rfl⟩
  · rw [(cb_yes hq).1, (cb_yes hq).2]
    obtain ⟨n0, n1⟩ := inB_true.1 hq
    obtain ⟨N, rfl⟩ := Int.eq_ofNat_of_zero_le n0
    have hN : N < 4096 := by omega
    rw [Int.toNat_natCast]
    go_enter Tryd.func15, Tryd.ntmps15
    go_wp2_with (go_at_call 32; refine (l06Profile_any _ _).mono ?_; rintro e w' ⟨rfl, rfl⟩)
    clear hq n0 n1
    go_loop [0, 4] (fun r x => ∃ m a c : Nat, r = .int .i64 (a : Int) ∧ x = .int .i64 ((2 ^ c : Nat) : Int) ∧ m ≤ 12 ∧ Hid (a < 2 ^ m) ∧ Hid (c + pcF m a = pcF 12 N)) (fun r _ => (intOf r).toNat)
    case atStart => exact ⟨12, N, 0, rfl, rfl, Nat.le_refl _, Lib.hid hN, Lib.hid (by simp)⟩
    case round =>
      obtain ⟨m, a, c, rfl, rfl, hm, ha, hc⟩ := hrel
      have hal : a < 4096 := Nat.lt_of_lt_of_le ha.out (pow_le12 hm)
      have hcl : c + pcF m a ≤ 12 := by rw [hc.out]; exact pcF_le 12 N
      by_cases h0 : 0 < a
      · obtain ⟨p, rfl⟩ : ∃ p, m = p + 1 := by
          rcases m with _ | p
          · have := ha.out; simp at this; omega
          · exact ⟨p, rfl⟩
        have h0' : (0 : Int) < (a : Int) := by omega
        have HA2 : Hid (a / 2 < 2 ^ p) := Lib.hid (by
          have := ha.out
          rw [Nat.pow_succ] at this
          omega)
        have hstep : c + (a % 2 + pcF p (a / 2)) = pcF 12 N := hc.out
        have hs2 : c + (a % 2 + pcF p (a / 2)) ≤ 12 := hcl
        clear hc hcl
        by_cases hb : a % 2 = 1
        · have HN : Hid (c + 1 + pcF p (a / 2) = pcF 12 N) := Lib.hid (by omega)
          have hvl := pow_le12 (q := c) (by omega)
          have HV : Hid ((2 ^ (c + 1) : Nat) = 2 * 2 ^ c) := Lib.hid (by rw [Nat.pow_succ]; omega)
          generalize 2 ^ c = v at *
          have t1 : (a : Int).tmod 2 = 1 := by rw [Int.tmod_eq_emod_of_nonneg (by omega)]; omega
          have t2 : (a : Int) % 2 = 1 := by omega
          obtain ⟨a2, ha2⟩ : ∃ a2, a / 2 = a2 := ⟨_, rfl⟩
          have t3 : (a : Int).tdiv 2 = (a2 : Int) := by rw [Int.tdiv_eq_ediv_of_nonneg (by omega)]; omega
          have t4 : (a : Int) / 2 = (a2 : Int) := by omega
          have a2l : a2 < a := by omega
          rw [ha2] at HN HA2
          clear hstep hs2 hb ha2
          go_wp2
          go_round
          case rel => exact ⟨p, a2, c + 1, by go_num, by rw [HV.out]; go_num, by omega, HA2, HN⟩
          case measure => simp [intOf]; omega
        · have HN : Hid (c + pcF p (a / 2) = pcF 12 N) := Lib.hid (by omega)
          have hvl := pow_le12 (q := c) (by omega)
          have HV : Hid ((2 ^ c : Nat) = 2 ^ c) := Lib.hid rfl
          generalize hvv : 2 ^ c = v at *
          have t1 : (a : Int).tmod 2 = 0 := by rw [Int.tmod_eq_emod_of_nonneg (by omega)]; omega
          have t2 : (a : Int) % 2 = 0 := by omega
          obtain ⟨a2, ha2⟩ : ∃ a2, a / 2 = a2 := ⟨_, rfl⟩
          have t3 : (a : Int).tdiv 2 = (a2 : Int) := by rw [Int.tdiv_eq_ediv_of_nonneg (by omega)]; omega
          have t4 : (a : Int) / 2 = (a2 : Int) := by omega
          have a2l : a2 < a := by omega
          rw [ha2] at HN HA2
          have HVV := Lib.hid hvv
          clear hstep hs2 hb hvv ha2
          go_wp2
          go_round
          case rel => exact ⟨p, a2, c, by go_num, by rw [HVV.out], by omega, HA2, HN⟩
          case measure => simp [intOf]; omega
      · have HE : Hid (c = pcF 12 N) := Lib.hid (by
          have := hc.out
          obtain rfl : a = 0 := by omega
          have z : ∀ k, pcF k 0 = 0 := fun k => by
            induction k with
            | zero => rfl
            | succ k ih => show 0 % 2 + pcF k (0 / 2) = 0; simpa using ih
          rw [z] at this
          omega)
        obtain rfl : a = 0 := by omega
        clear hc hcl
        go_wp2
        go_ret2
        exact ⟨ret_int2 (by rw [← HE.out]) rfl, rfl⟩

theorem lawCountBlanks_any (n : Int) (w : World) (htab : Lib.TabIs Tryd.prog w "loop.example/g00947/impl.nibbleBits" .i64 nibTab) :
    Calls Tryd.prog 4 #[.int .i64 n] w fun e w' => e = .returned (.bool true) ∧ Below w.heap.size w w' := by
  have d1 : (cbV n != cbV n) = false := by simp
  have d2 : (cbE n != cbE n) = false := by simp
  have HC := Lib.hid (countBlanks_any n w htab)
  clear htab
  go_enter Tryd.func4, Tryd.ntmps4
  go_wp2_with (first | (go_at_call 15; refine (specCountBlanks_any _ _).mono ?_; rintro e w' ⟨rfl, rfl⟩) | (go_at_call 14; refine HC.out.mono ?_; rintro e w' ⟨rfl, rfl⟩))
  go_ret
  exact ⟨rfl, Below.refl _ _⟩

end Go.Proofs.YtiijkcebloefbaaDoor
