/- Profiles and keyways: words, and the contracts of the tests on them; EntersWay of the program and of the model, and its law. -/
import Derived.Test.YtiijkcebloefbaaDoorList
import Derived.Laws.BitsAllLaws
namespace Go.Proofs.YtiijkcebloefbaaDoor
open Go.RowKit

def waysB (xs : List Int) : Bool := decide (xs.length ≤ 8) && allIn 0 4095 xs
theorem waysB_long {xs : List Int} {n : Nat} (hl : xs.length = n) (h : 8 < n) : waysB xs = false := by
  unfold waysB
  rw [hl, decide_eq_false (by omega)]; rfl
theorem waysB_short {xs : List Int} {n : Nat} (hl : xs.length = n) (h : n ≤ 8) : waysB xs = allIn 0 4095 xs := by
  unfold waysB
  rw [hl, decide_eq_true h]; rfl
theorem waysB_no {xs : List Int} (h : allIn 0 4095 xs = false) : waysB xs = false := by unfold waysB; rw [h, Bool.and_false]
theorem waysB_true {xs : List Int} (h : waysB xs = true) : xs.length ≤ 8 ∧ allIn 0 4095 xs = true := by
  unfold waysB at h
  simpa using h
theorem waysB_with {xs : List Int} {n : Nat} (hl : xs.length = n) (h : n ≤ 8) : withB 0 4095 xs = waysB xs := by
  rw [withB_short hl (by omega), waysB_short hl h]

/-- does a blank enter a keyway -/
def entB (b w : Int) : Bool := ((b.toNat &&& w.toNat : Nat) : Int) == b
theorem and_nat64 (a b : Nat) (ha : a < 4611686018427387904) (hb : b < 4611686018427387904) : bits .and .i64 (a : Int) (b : Int) = ((a &&& b : Nat) : Int) := by
  have h : a &&& b ≤ a := Nat.and_le_left
  unfold bits
  show IntKind.i64.wrap (((BitVec.ofInt 64 (a : Int)) &&& (BitVec.ofInt 64 (b : Int))).toNat : Int) = _
  rw [BitVec.toNat_and, BitVec.ofInt_natCast, BitVec.ofInt_natCast, BitVec.toNat_ofNat, BitVec.toNat_ofNat, Nat.mod_eq_of_lt (by omega), Nat.mod_eq_of_lt (by omega), IntKind.wrap_i64]
  omega
theorem and_int64 {a b : Int} (ha : 0 ≤ a) (ha' : a < 4611686018427387904) (hb : 0 ≤ b) (hb' : b < 4611686018427387904) : bits .and .i64 a b = ((a.toNat &&& b.toNat : Nat) : Int) := by
  have := and_nat64 a.toNat b.toNat (by omega) (by omega)
  rwa [Int.toNat_of_nonneg ha, Int.toNat_of_nonneg hb] at this
theorem ent64 {b w : Int} (hb : 0 ≤ b) (hb' : b ≤ 4095) (hw : 0 ≤ w) (hw' : w ≤ 4095) : (bits .and .i64 b w == b) = entB b w := by
  unfold entB; rw [and_int64 hb (by omega) hw (by omega)]
theorem ent16 {b w : Int} (hb : 0 ≤ b) (hb' : b ≤ 4095) (hw : 0 ≤ w) (hw' : w ≤ 4095) : (bits .and .u16 b w == b) = entB b w := by
  unfold entB; rw [u16_and b w hb (by omega) hw (by omega)]

theorem isProfile_any (n : Int) (w : World) :
    Calls Tryd.prog 30 #[.int .i64 n] w fun e w' => e = .returned (.bool (inB n 0 4095)) ∧ w = w' := by
  go_enter Tryd.func30, Tryd.ntmps30
  go_wp2_with (go_at_call 39; refine (isWithin_any _ _ _ _).mono ?_; rintro e w' ⟨rfl, rfl⟩)
  go_ret
  exact ⟨rfl, rfl⟩

theorem l06Profile_any (n : Int) (w : World) :
    Calls Tryd.prog 32 #[.int .i64 n] w fun e w' => e = .returned (.bool (inB n 0 4095)) ∧ w = w' := by
  go_enter Tryd.func32, Tryd.ntmps32
  go_wp2_with (go_at_call 40; refine (l01In_any _ _ _ _).mono ?_; rintro e w' ⟨rfl, rfl⟩)
  go_ret
  exact ⟨rfl, rfl⟩

theorem areWays_any (A : Option Addr) (n c : Nat) (xs : List Int) (w : World) (h : Ints w w.heap.size A n xs) (hn : n ≤ 1048576) :
    Calls Tryd.prog 28 #[.slice A n c] w fun e w' => e = .returned (.bool (waysB xs)) ∧ w = w' := by
  have HL := Lib.hid h.len
  by_cases hs : n ≤ 8
  · have HW := Lib.hid (waysB_with HL.out hs)
    go_enter Tryd.func28, Tryd.ntmps28
    go_wp2_with (go_at_call 37; refine (areWithin_any _ _ _ xs _ _ _ h hn).mono ?_; rintro e w' ⟨rfl, rfl⟩)
    go_ret
    exact ⟨ret_bool HW.out, rfl⟩
  · rw [waysB_long HL.out (by omega)]
    go_enter Tryd.func28, Tryd.ntmps28
    go_wp2
    go_ret
    exact ⟨rfl, rfl⟩

theorem l06Ways_any (A : Option Addr) (n c : Nat) (xs : List Int) (w : World) (h : Ints w w.heap.size A n xs) (hn : n ≤ 1048576) :
    Calls Tryd.prog 21 #[.slice A n c] w fun e w' => e = .returned (.bool (waysB xs)) ∧ w = w' := by
  have HL := Lib.hid h.len
  go_enter Tryd.func21, Tryd.ntmps21
  go_wp2
  go_loop [3] (fun i => ∃ k : Nat, k ≤ n ∧ i = .int .i64 k ∧ Hid (allIn 0 4095 (xs.take k) = true)) (fun i => n - (intOf i).toNat)
  case atStart => exact ⟨0, Nat.zero_le _, rfl, Lib.hid rfl⟩
  case round =>
    obtain ⟨k, hk, rfl, hall⟩ := hrel
    by_cases hlt : k < n
    · obtain ⟨ad, v, rfl, hab, hv, hc⟩ := h.at_ hlt
      have HV := Lib.hid hv
      clear hv
      rcases hq : inB v 0 4095 with _ | _
      · go_wp2_with (go_at_call 32; refine (l06Profile_any _ _).mono ?_; rintro e w' ⟨rfl, rfl⟩)
        go_ret
        exact ⟨ret_bool (waysB_no (allIn_no HV.out hq)).symm, rfl⟩
      · go_wp2_with (go_at_call 32; refine (l06Profile_any _ _).mono ?_; rintro e w' ⟨rfl, rfl⟩)
        go_round
        case rel => exact ⟨k + 1, by omega, by go_num, Lib.hid (allIn_step HV.out hall.out hq)⟩
        case measure => simp [intOf]; omega
    · have HA : Hid (allIn 0 4095 xs = true) := by rw [← take_end HL.out hlt]; exact hall
      clear hall
      by_cases hs : n ≤ 8
      · go_wp2
        go_ret
        exact ⟨ret_bool (by rw [waysB_short HL.out hs, HA.out]; simp; omega), rfl⟩
      · go_wp2
        go_ret
        exact ⟨ret_bool (by rw [waysB_long HL.out (by omega)]; simp; omega), rfl⟩

theorem enters_any (b v : Int) (w : World) (hb : 0 ≤ b) (hb' : b ≤ 4095) (hw : 0 ≤ v) (hw' : v ≤ 4095) :
    Calls Tryd.prog 33 #[.int .u16 b, .int .u16 v] w fun e w' => e = .returned (.bool (entB b v)) ∧ w = w' := by
  have ho := ent16 hb hb' hw hw'
  go_enter Tryd.func33, Tryd.ntmps33
  go_wp2
  go_ret
  exact ⟨rfl, rfl⟩

def ewV (b v : Int) : Bool := inB b 0 4095 && inB v 0 4095 && entB b v
def ewE (b v : Int) : Int := if inB b 0 4095 && inB v 0 4095 then 0 else 2
theorem ew_no {b v : Int} (h : inB b 0 4095 = false ∨ inB v 0 4095 = false) : ewV b v = false ∧ ewE b v = 2 := by
  rcases h with h | h <;> simp [ewV, ewE, h]
theorem ew_yes {b v : Int} (h : inB b 0 4095 = true) (h2 : inB v 0 4095 = true) : ewV b v = entB b v ∧ ewE b v = 0 := by simp [ewV, ewE, h, h2]

theorem entersWay_any (b v : Int) (w : World) :
    Calls Tryd.prog 16 #[.int .i64 b, .int .i64 v] w fun e w' => e = .returned (.tuple #[.bool (ewV b v), .int .i64 (ewE b v)]) ∧ w = w' := by
  rcases hb : inB b 0 4095 with _ | _
  · rw [(ew_no (.inl hb)).1, (ew_no (.inl hb)).2]
    go_enter Tryd.func16, Tryd.ntmps16
    go_wp2_with (go_at_call 30; refine (isProfile_any _ _).mono ?_; rintro e w' ⟨rfl, rfl⟩)
    go_ret2
    exact ⟨rfl, rfl⟩
  rcases hv : inB v 0 4095 with _ | _
  · rw [(ew_no (.inr hv)).1, (ew_no (.inr hv)).2]
    go_enter Tryd.func16, Tryd.ntmps16
    go_wp2_with (go_at_call 30; refine (isProfile_any _ _).mono ?_; rintro e w' ⟨rfl, rfl⟩)
    go_ret2
    exact ⟨rfl, rfl⟩
  rw [(ew_yes hb hv).1, (ew_yes hb hv).2]
  obtain ⟨b0, b1⟩ := inB_true.1 hb
  obtain ⟨v0, v1⟩ := inB_true.1 hv
  go_enter Tryd.func16, Tryd.ntmps16
  go_wp2_with (first | (go_at_call 30; refine (isProfile_any _ _).mono ?_; rintro e w' ⟨rfl, rfl⟩) | (go_at_call 33; refine (enters_any b v _ b0 b1 v0 v1).mono ?_; rintro e w' ⟨rfl, rfl⟩))
  go_ret2
  exact ⟨rfl, rfl⟩

end Go.Proofs.YtiijkcebloefbaaDoor
