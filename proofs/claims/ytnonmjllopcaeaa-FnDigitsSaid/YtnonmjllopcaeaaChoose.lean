/- ChooseOf of the program: its contract. -/
import Derived.Test.YtnonmjllopcaeaaNumb
import Derived.Test.YtnonmjllopcaeaaChooseMath
namespace Go.Proofs.Ytnonmjllopcaeaa
open Go.RowKit

def chOk (n k : Int) : Bool := inB n 0 60 && inB k 0 n
def chV (n k : Int) : Int := if chOk n k then resV (chooseN n.toNat k.toNat) else 0
def chE (n k : Int) : Int := if chOk n k then resC (chooseN n.toNat k.toNat) else 2
theorem ch_no {n k : Int} (h : inB n 0 60 = false ∨ inB k 0 n = false) : chV n k = 0 ∧ chE n k = 2 := by
  have : chOk n k = false := by unfold chOk; rcases h with h | h <;> simp [h]
  simp [chV, chE, this]
theorem ch_yes {n k : Nat} (h : inB n 0 60 = true) (h2 : inB k 0 n = true) : chV n k = resV (chooseN n k) ∧ chE n k = resC (chooseN n k) := by
  have : chOk n k = true := by unfold chOk; simp [h, h2]
  simp [chV, chE, this]
theorem choose_parts {N K : Nat} (h : K ≤ N) : ∃ L S : Nat, L + S = N ∧ S ≤ L ∧ chooseN N K = seqN L S ∧ (if (N : Int) - K < K then (N : Int) - K else K) = S ∧ (if (K : Int) < (N : Int) - K then (N : Int) - K else K) = L := by
  by_cases h1 : K ≤ N - K
  · refine ⟨N - K, K, by omega, h1, by unfold chooseN; rw [if_pos h1], by rw [if_neg (by omega)], ?_⟩
    split <;> omega
  · refine ⟨K, N - K, by omega, by omega, by unfold chooseN; rw [if_neg h1], by rw [if_pos (by omega)]; omega, by rw [if_neg (by omega)]⟩
theorem seq_cast (q L k : Nat) : ((q : Int) * ((L : Int) + ((k : Int) + 1))) / ((k : Int) + 1) = ((q * (L + (k + 1)) / (k + 1) : Nat) : Int) := by
  rw [Int.natCast_ediv, Int.natCast_mul, Int.natCast_add, Int.natCast_add]
  rfl
theorem seq_bound {q L k : Nat} (h : q * (L + (k + 1)) < 4611686018427387904) : 0 ≤ (q : Int) * ((L : Int) + ((k : Int) + 1)) ∧ (q : Int) * ((L : Int) + ((k : Int) + 1)) < 4611686018427387904 := by
  have e : (q : Int) * ((L : Int) + ((k : Int) + 1)) = ((q * (L + (k + 1)) : Nat) : Int) := by
    rw [Int.natCast_mul, Int.natCast_add, Int.natCast_add]; rfl
  rw [e]; omega

theorem minimumOf_is (a b c : Int) (w : World) (h : (if b < a then b else a) = c) :
    Calls Try.prog 48 #[.int .i64 a, .int .i64 b] w fun e w' => e = .returned (.int .i64 c) ∧ w = w' := by
  rw [← h]; exact minimumOf_any a b w
theorem maximumOf_is (a b c : Int) (w : World) (h : (if a < b then b else a) = c) :
    Calls Try.prog 49 #[.int .i64 a, .int .i64 b] w fun e w' => e = .returned (.int .i64 c) ∧ w = w' := by
  rw [← h]
  by_cases h : a < b
  · rw [if_pos h]
    go_enter Try.func49, Try.ntmps49
    go_wp2
    go_ret
    exact ⟨rfl, rfl⟩
  · rw [if_neg h]
    go_enter Try.func49, Try.ntmps49
    go_wp2
    go_ret
    exact ⟨rfl, rfl⟩

set_option maxRecDepth 100000 in
theorem chooseOf_any (n k : Int) (w : World) :
    Calls Try.prog 19 #[.int .i64 n, .int .i64 k] w fun e w' => e = .returned (.tuple #[.int .i64 (chV n k), .int .i64 (chE n k)]) ∧ w = w' := by
  rcases hn : inB n 0 60 with _ | _
  · obtain ⟨e1, e2⟩ := ch_no (n := n) (k := k) (.inl hn)
    rw [e1, e2]; clear e1 e2
    go_enter Try.func19, Try.ntmps19
    go_wp2_with (go_at_call 44; refine (isWithin_any _ _ _ _).mono ?_; rintro e w' ⟨rfl, rfl⟩)
    go_ret2
    exact ⟨rfl, rfl⟩
  rcases hk : inB k 0 n with _ | _
  · obtain ⟨e1, e2⟩ := ch_no (n := n) (k := k) (.inr hk)
    rw [e1, e2]; clear e1 e2
    go_enter Try.func19, Try.ntmps19
    go_wp2_with (go_at_call 44; refine (isWithin_any _ _ _ _).mono ?_; rintro e w' ⟨rfl, rfl⟩)
    go_ret2
    exact ⟨rfl, rfl⟩
  obtain ⟨n0, n1⟩ := inB_true.1 hn
  obtain ⟨k0, k1⟩ := inB_true.1 hk
  obtain ⟨N, rfl⟩ := Int.eq_ofNat_of_zero_le n0
  obtain ⟨K, rfl⟩ := Int.eq_ofNat_of_zero_le k0
  obtain ⟨e1, e2⟩ := ch_yes hn hk
  rw [e1, e2]; clear e1 e2
  obtain ⟨L, Sm, hLS, hSL, hch, hmin, hmax⟩ := choose_parts (show K ≤ N by omega)
  rw [hch]
  have HMIN := Lib.hid hmin
  have HMAX := Lib.hid hmax
  have HN := Lib.hid (show L + Sm ≤ 60 by omega)
  have l60 : L ≤ 60 := by omega
  clear hmin hmax hch hLS
  go_enter Try.func19, Try.ntmps19
  go_wp2_with (first
    | (go_at_call 44; refine (isWithin_any _ _ _ _).mono ?_; rintro e w' ⟨rfl, rfl⟩)
    | (go_at_call 48; refine (minimumOf_is _ _ _ _ HMIN.out).mono ?_; rintro e w' ⟨rfl, rfl⟩)
    | (go_at_call 49; refine (maximumOf_is _ _ _ _ HMAX.out).mono ?_; rintro e w' ⟨rfl, rfl⟩))
  clear hn hk
  go_loop [8, 9] (fun s i => ∃ j : Nat, j ≤ Sm ∧ i = .int .i64 ((j : Int) + 1) ∧ s = .int .i64 (seqN L j)) (fun _ i => ((Sm : Int) + 1 - intOf i).toNat)
  case atStart => exact ⟨0, Nat.zero_le _, rfl, rfl⟩
  case round =>
    obtain ⟨j, hj, rfl, rfl⟩ := hrel
    by_cases hlt : j < Sm
    · obtain ⟨b0, b1⟩ := seq_bound (seq_small HN.out hSL hlt)
      have HC := Lib.hid (seq_cast (seqN L j) L j)
      obtain ⟨q, hq⟩ : ∃ q, q = seqN L j := ⟨_, rfl⟩
      have HQ := Lib.hid (show seqN L (j + 1) = q * (L + (j + 1)) / (j + 1) by rw [hq]; rfl)
      rw [← hq] at HC b0 b1 ⊢
      clear hq
      have HLT := Lib.hid hlt
      have hle : (j : Int) + 1 ≤ (Sm : Int) := by omega
      clear hlt
      go_wp2
      go_round
      case rel => exact ⟨j + 1, by omega, by go_num, by rw [HQ.out, ← HC.out]⟩
      case measure => simp [intOf]; omega
    · have HJ := Lib.hid (show j = Sm by omega)
      go_wp2_with (go_at_call 35; refine (numberOrLimit_any _ _).mono ?_; rintro e w' ⟨rfl, rfl⟩)
      go_ret2
      exact ⟨ret_int2 (by rw [HJ.out]) (by rw [HJ.out]), rfl⟩

end Go.Proofs.Ytnonmjllopcaeaa
