/- The program's sets of keys: has, size, openedBy, leastKeys, doorsOf. -/
import Derived.Test.YtidjnnooeepklaaTabR
import Derived.Test.YtidjnnooeepklaaTabN
import Derived.RegionTactic
import Derived.BigRegion
namespace Go.Proofs.Ytidjnnooeepklaa
open Go Go.RowKit

theorem natAnd64 (a b : Nat) (ha : a < 4611686018427387904) (hb : b < 4611686018427387904) : bits .and .i64 (a : Int) (b : Int) = ((a &&& b : Nat) : Int) := by
  have h : a &&& b ≤ a := Nat.and_le_left
  unfold bits
  show IntKind.i64.wrap (((BitVec.ofInt 64 (a : Int)) &&& (BitVec.ofInt 64 (b : Int))).toNat : Int) = _
  rw [BitVec.toNat_and, BitVec.ofInt_natCast, BitVec.ofInt_natCast, BitVec.toNat_ofNat, BitVec.toNat_ofNat, Nat.mod_eq_of_lt (by omega), Nat.mod_eq_of_lt (by omega), IntKind.wrap_i64]
  omega
theorem bitK64 (u p : Nat) (hu : u < 1024) : (bits .and .i64 ((u : Int) / 2 ^ p) 1 == 1) = u.testBit p := by
  have e : (u : Int) / 2 ^ p = ((u / 2 ^ p : Nat) : Int) := by rw [Int.natCast_ediv, Int.natCast_pow]; rfl
  have hle : u / 2 ^ p ≤ u := Nat.div_le_self _ _
  have h := natAnd64 (u / 2 ^ p) 1 (by omega) (by omega)
  rw [e]
  rw [show ((1 : Nat) : Int) = 1 from rfl] at h
  rw [h, Nat.testBit_eq_decide_div_mod_eq, Nat.and_one_is_mod]
  by_cases h : u / 2 ^ p % 2 = 1
  · rw [h]; rfl
  · have : u / 2 ^ p % 2 = 0 := by omega
    rw [this]; rfl

theorem keyHas_any (n m u k : Nat) (F : Nat → Nat) (w : World) (hn : n ≤ 10) (hk : k < n) (hu : u < 1024) :
    Calls Try.prog 105 #[.agg (tabA n m F), .int .i64 (u : Int), .int .i64 (k : Int)] w fun e w' => e = .returned (.bool (u.testBit (n - 1 - k))) ∧ Below w.heap.size w w' := by
  have C0 := Lib.hid (below_boxT w (.cells (tabA n m F) 83))
  have hc := (TBox.new w n m F).nm.1
  have hb := bitK64 u (n - 1 - k) hu
  have e1 : (n : Int) - 1 - (k : Int) = ((n - 1 - k : Nat) : Int) := by omega
  have e0 : (0 : Int) ≤ (n : Int) - 1 - (k : Int) := by omega
  unfold tabA at *
  go_enter Try.func105, Try.ntmps105
  go_wp2
  go_ret
  exact ⟨rfl, C0.out⟩

def pA (u : Nat) : Int := bits .and .u64 ((u : Int) / 2) 6148914691236517205
def pB (u : Nat) : Int := bits .and .u64 (u : Int) 6148914691236517205
def pC (u : Nat) : Int := bits .and .u64 ((pA u + pB u) / 4) 3689348814741910323
def pD (u : Nat) : Int := bits .and .u64 (pA u + pB u) 3689348814741910323
def pE9 (u : Nat) : Int := bits .and .u64 ((pC u + pD u) / 16 + (pC u + pD u)) 1085102592571150095
def inTen (x : Int) : Bool := decide (0 ≤ x) && decide (x ≤ 4095)
def tenOk (u : Nat) : Bool := inTen (pA u) && (inTen (pB u) && (inTen (pC u) && (inTen (pD u) && (inTen (pE9 u) && decide (bits .and .i64 (pE9 u + pE9 u / 256) 127 = (onesN 10 u : Int))))))
theorem ten_facts (u : Nat) (hu : u < 1024) : tenOk u = true := by
  have h : ∀ q, q < 32 → ∀ r, r < 32 → tenOk (32 * q + r) = true := by decide +kernel
  have := h (u / 32) (by omega) (u % 32) (by omega)
  rwa [Nat.div_add_mod] at this
set_option maxRecDepth 100000 in
theorem ones64_any (u : Nat) (hu : u < 1024) (w : World) :
    Calls Try.prog 158 #[.int .u64 (u : Int)] w fun e w' => e = .returned (.int .i64 (onesN 10 u)) ∧ w = w' := by
  have hf := ten_facts u hu
  unfold tenOk inTen at hf
  simp only [Bool.and_eq_true, decide_eq_true_eq] at hf
  obtain ⟨⟨a0, a1⟩, ⟨b0, b1⟩, ⟨c0, c1⟩, ⟨d0, d1⟩, ⟨p0, p1⟩, h6⟩ := hf
  have e1 : bits .and .u64 ((u : Int) / 2) 6148914691236517205 = pA u := rfl
  have e2 : bits .and .u64 (u : Int) 6148914691236517205 = pB u := rfl
  have e3 : bits .and .u64 ((pA u + pB u) / 4) 3689348814741910323 = pC u := rfl
  have e4 : bits .and .u64 (pA u + pB u) 3689348814741910323 = pD u := rfl
  have e5 : bits .and .u64 ((pC u + pD u) / 16 + (pC u + pD u)) 1085102592571150095 = pE9 u := rfl
  generalize pA u = a at *
  generalize pB u = b at *
  generalize pC u = c at *
  generalize pD u = d at *
  generalize pE9 u = p at *
  have k2 : (p + p / 256) / 65536 = 0 := by omega
  have k3 : (p + p / 256) / 4294967296 = 0 := by omega
  have k4 : p / 256 + p = p + p / 256 := by omega
  have hu' : (u : Int) < 1024 := by omega
  go_enter Try.func158, Try.ntmps158
  go_wp2
  go_ret
  exact ⟨rfl, rfl⟩

theorem keySize_any (u : Nat) (hu : u < 1024) (w : World) :
    Calls Try.prog 141 #[.int .i64 (u : Int)] w fun e w' => e = .returned (.int .i64 (onesN 10 u)) ∧ w = w' := by
  have hu' : (u : Int) < 1024 := by omega
  go_enter Try.func141, Try.ntmps141
  go_wp2_with (go_at_call 158; refine (ones64_any u hu _).mono ?_; rintro e w' ⟨rfl, rfl⟩)
  go_ret
  exact ⟨rfl, rfl⟩

theorem doorsOf_any (A : Option Addr) (q c : Nat) (ds : List Int) (w : World) (h : Ints w w.heap.size A q ds) (hd : ∀ d ∈ ds, 0 ≤ d ∧ d < 12) (hq : q ≤ 1048576) :
    Calls Try.prog 103 #[.slice A q c] w fun e w' => e = .returned (.int .u16 (dorM ds : Nat)) ∧ w = w' := by
  have HL := Lib.hid h.len
  have HD := Lib.hid hd
  clear hd
  go_enter Try.func103, Try.ntmps103
  go_wp2
  go_loop [3, 8] (fun s i => ∃ k : Nat, k ≤ q ∧ i = .int .i64 k ∧ s = .int .u16 ((dorM (ds.take k) : Nat) : Int)) (fun _ i => q - (intOf i).toNat)
  case atStart => exact ⟨0, Nat.zero_le _, rfl, rfl⟩
  case round =>
    obtain ⟨k, hk, rfl, rfl⟩ := hrel
    by_cases hlt : k < q
    · obtain ⟨ad, v, rfl, hab, hv, hc⟩ := h.at_ hlt
      have hv2 := HD.out v (List.mem_of_getElem? hv)
      obtain ⟨D, rfl⟩ := Int.eq_ofNat_of_zero_le hv2.1
      have hD : D < 12 := by omega
      have HS := Lib.hid (dorM_step hv)
      have hlt2 : dorM (ds.take k) < 4096 := dorM_lt _ (fun x hx => HD.out x (List.mem_of_mem_take hx))
      have hor := bits_pow16 (a := dorM (ds.take k)) (d := D) (by omega) hD
      have i0 : (0 : Int) ≤ (D : Int) := by omega
      clear hv hv2
      generalize dorM (ds.take k) = u at *
      go_wp2
      go_round
      case rel => exact ⟨k + 1, by omega, by go_num, by rw [HS.out, Int.toNat_natCast]⟩
      case measure => simp [intOf]; omega
    · have HX : Hid (ds.take k = ds) := Lib.hid (List.take_of_length_le (by have := HL.out; omega))
      rw [HX.out]
      go_wp2
      go_ret
      exact ⟨rfl, rfl⟩

set_option maxRecDepth 100000 in
set_option maxHeartbeats 4000000 in
theorem openedBy_any (n m u : Nat) (F : Nat → Nat) (w : World) (hn : n ≤ 10) (hu : u < 1024) (hF : ∀ i, i < n → F i < 4096) :
    Calls Try.prog 140 #[.agg (tabA n m F), .int .i64 (u : Int)] w fun e w' => e = .returned (.int .u16 (opU n F u n : Nat)) ∧ Below w.heap.size w w' := by
  have C0 := Lib.hid (below_boxT w (.cells (tabA n m F) 83))
  have G0 := Lib.hid (TBox.new w n m F)
  have HF := Lib.hid hF
  have hc := G0.out.nm.1
  obtain ⟨dd, hU, hD⟩ := undT
  have HU := Lib.hid hU
  have HD := Lib.hid hD
  have HZ2 := Lib.hid Try.infoT
  clear hF hU hD
  obtain ⟨W, hW⟩ : ∃ W, W = w.alloc (.cells (tabA n m F) 83) := ⟨_, rfl⟩
  have hW2 := hW
  unfold tabA at hW2 hc
  rw [← hW] at C0 G0
  go_enter Try.func140, Try.ntmps140
  unfold tabA
  go_wp2
  rw [← hW2] at *
  clear hc hW hW2
  go_loopw [5, 9] (fun s i wr => ∃ k : Nat, k ≤ n ∧ i = .int .i64 k ∧ s = .int .u16 ((opU n F u k : Nat) : Int) ∧ Hid (TBox wr w.heap.size n m F) ∧ Hid (Below w.heap.size w wr)) (fun _ i _ => n - (intOf i).toNat)
  case atStart => exact ⟨0, Nat.zero_le _, rfl, rfl, G0, C0⟩
  case round =>
    obtain ⟨k, hk, rfl, rfl, HG, HB⟩ := hrel
    clear G0 C0
    by_cases hlt : k < n
    · have R1 := Lib.hid HG.out.range
      have hcl := opU_lt (u := u) HF.out k hk
      have hfk := HF.out k hlt
      have HS := Lib.hid (opU_succ n F u k)
      have hor := nat_or16 (opU n F u k) (F k) (by omega) (by omega)
      have i0 : (0 : Int) ≤ (k : Int) := by omega
      have i1 : (k : Int) < 10 := by omega
      rcases hb : u.testBit (n - 1 - k) with _ | _
      · rw [hb] at HS
        have HB2 := Lib.hid hb
        generalize opU n F u k = x at *
        clear hb hor hfk hcl
        go_wp2_with (first
          | (refine wpList_load_mid rfl 83 _ rfl w.heap.size 0 rfl _ _ R1.out HU.out HD.out HZ2.out ?_)
          | (go_at_call 105; refine (keyHas_any n m u k F _ hn hlt hu).mono ?_; rw [HB2.out]; rintro e w1 ⟨rfl, b1⟩; have G1 := Lib.hid (HG.out.on b1); have B1 := Lib.hid (below_trans' HB.out b1); clear b1))
        go_roundw
        case rel => exact ⟨k + 1, by omega, by go_num, by rw [HS.out]; rfl, G1, B1⟩
        case measure => simp [intOf]; omega
      · rw [hb] at HS
        have HB2 := Lib.hid hb
        generalize opU n F u k = x at *
        clear hb hfk hcl
        go_wp2_with (first
          | (refine wpList_load_mid rfl 83 _ rfl w.heap.size 0 rfl _ _ R1.out HU.out HD.out HZ2.out ?_)
          | (go_at_call 105; refine (keyHas_any n m u k F _ hn hlt hu).mono ?_; rw [HB2.out]; rintro e w1 ⟨rfl, b1⟩; have G1 := Lib.hid (HG.out.on b1); have B1 := Lib.hid (below_trans' HB.out b1); have hck := G1.out.cell (i := k) (by omega); clear b1))
        go_roundw
        case rel => exact ⟨k + 1, by omega, by go_num, by rw [HS.out]; rfl, G1, B1⟩
        case measure => simp [intOf]; omega
    · obtain rfl : k = n := by omega
      go_wp2
      go_ret
      exact ⟨rfl, HB.out⟩

end Go.Proofs.Ytidjnnooeepklaa
