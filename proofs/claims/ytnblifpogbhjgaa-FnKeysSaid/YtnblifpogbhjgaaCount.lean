/- CountKeys of the program: bits, and the table of states. -/
import Derived.Test.YtnblifpogbhjgaaDpMath
import Derived.RegionTactic
import Derived.BigRegion
import Derived.Deep.MidRow
namespace Go.Proofs.Ytnblifpogbhjgaa
open Go.RowKit

/-- the table of states in memory -/
def Table (w : World) (g : Nat) (F : Nat → Int) : Prop := w.rowIs g 87 14336 (fun j => .int .i64 (F j))
def isZero : Value → Bool
  | .int .i64 n => n == 0
  | _ => false
theorem isZero_is {v : Value} (h : isZero v = true) : v = .int .i64 0 := by
  unfold isZero at h
  split at h
  · next n => obtain rfl : n = 0 := by simpa using h
              rfl
  · cases h
set_option maxRecDepth 1000000 in
theorem zeros_all : Try.zeroCells87.toList.all isZero = true := by kernel_rfl
theorem zeros_of {z : Array Value} (h : z.toList.all isZero = true) {i : Nat} (hi : i < z.size) : z[i]? = some (.int .i64 0) := by
  have hv : z[i]? = some z[i] := Array.getElem?_eq_getElem hi
  rw [hv, isZero_is (List.all_eq_true.1 h z[i] (by simp))]
theorem zeros_at {i : Nat} (h : i < 14336) : Try.zeroCells87[i]? = some (.int .i64 0) :=
  zeros_of zeros_all (by rw [Try.zeroCells87_size]; exact h)
theorem table_new (w : World) : Table (w.alloc (.cells Try.zeroCells87 87)) w.heap.size (fun _ => 0) :=
  ⟨_, heap_alloc_new w _, Try.zeroCells87_size, fun _ hi => zeros_at hi⟩

def oA (u : Nat) : Int := bits .and .u64 ((u : Int) / 2) 6148914691236517205
def oB (u : Nat) : Int := bits .and .u64 (u : Int) 6148914691236517205
def oC (u : Nat) : Int := bits .and .u64 ((oA u + oB u) / 4) 3689348814741910323
def oD (u : Nat) : Int := bits .and .u64 (oA u + oB u) 3689348814741910323
def inByte (x : Int) : Bool := decide (0 ≤ x) && decide (x ≤ 255)
theorem ones_facts : ∀ u, u < 256 → (inByte (oA u) && (inByte (oB u) && (inByte (oC u) && (inByte (oD u) && (decide (bits .and .u64 ((oC u + oD u) / 16 + (oC u + oD u)) 1085102592571150095 = (pc u : Int)) && (decide (pc u ≤ 8) && decide (bits .and .i64 (pc u : Int) 127 = (pc u : Int)))))))) = true := by decide +kernel

set_option maxRecDepth 100000 in
theorem onesCount64_any (u : Nat) (hu : u < 256) (w : World) :
    Calls Try.prog 91 #[.int .u64 (u : Int)] w fun e w' => e = .returned (.int .i64 (pc u)) ∧ w = w' := by
  have hf := ones_facts u hu
  simp only [Bool.and_eq_true, decide_eq_true_eq, inByte] at hf
  obtain ⟨⟨a0, a1⟩, ⟨b0, b1⟩, ⟨c0, c1⟩, ⟨d0, d1⟩, h5, h6, h7⟩ := hf
  have e1 : bits .and .u64 ((u : Int) / 2) 6148914691236517205 = oA u := rfl
  have e2 : bits .and .u64 (u : Int) 6148914691236517205 = oB u := rfl
  have e3 : bits .and .u64 ((oA u + oB u) / 4) 3689348814741910323 = oC u := rfl
  have e4 : bits .and .u64 (oA u + oB u) 3689348814741910323 = oD u := rfl
  generalize oA u = a at *
  generalize oB u = b at *
  generalize oC u = c at *
  generalize oD u = d at *
  have p0 : (0 : Int) ≤ (pc u : Int) := by omega
  have p1 : (pc u : Int) ≤ 8 := by omega
  generalize (pc u : Int) = p at *
  have k1 : p / 256 = 0 := by omega
  have k2 : p / 65536 = 0 := by omega
  have k3 : p / 4294967296 = 0 := by omega
  have hu' : (u : Int) < 256 := by omega
  clear h6
  go_enter Try.func91, Try.ntmps91
  go_wp2
  go_ret
  exact ⟨rfl, rfl⟩

theorem onesCount_any (u : Nat) (hu : u < 256) (w : World) :
    Calls Try.prog 79 #[.int .u64 (u : Int)] w fun e w' => e = .returned (.int .i64 (pc u)) ∧ w = w' := by
  go_enter Try.func79, Try.ntmps79
  go_wp2_with (go_at_call 91; refine (onesCount64_any u hu _).mono ?_; rintro e w' ⟨rfl, rfl⟩)
  go_ret
  exact ⟨rfl, rfl⟩

theorem two_pow {d : Nat} (h : d < 8) : IntKind.i64.wrap (2 ^ d) = ((1 <<< d : Nat) : Int) ∧ 1 <<< d < 256 := by
  have : ∀ d, d < 8 → (IntKind.i64.wrap (2 ^ d) = ((1 <<< d : Nat) : Int) ∧ 1 <<< d < 256) := by decide
  exact this d h
theorem Table.put {w : World} {g i : Nat} {F : Nat → Int} (h : Table w g F) (x : Int) : Table (w.setCell ⟨g, i, none⟩ (.int .i64 (F i + x))) g (upd F i x) :=
  (World.rowIs.set h i (.int .i64 (F i + x))).congr (fun j _ => by
    unfold upd
    by_cases e : j = i
    · subst e; rw [if_pos rfl, if_pos rfl]
    · rw [if_neg e, if_neg e])
theorem Table.lt {w : World} {g : Nat} {F : Nat → Int} (h : Table w g F) : g < w.heap.size := by
  obtain ⟨c, hc, _⟩ := h
  exact heapLt hc
theorem Table.on {w w' : World} {g : Nat} {F : Nat → Int} (h : Table w g F) (hb : Below w.heap.size w w') : Table w' g F := by
  obtain ⟨c, hc, h2⟩ := h
  exact ⟨c, (hb.block g (heapLt hc)).trans hc, h2⟩
theorem Table.grown {w w' : World} {g : Nat} {F : Nat → Int} {row : Option Nat} (h : Table w g F) (hg : w.grownBy w' row) (hr : some g ≠ row) : Table w' g F := by
  obtain ⟨c, hc, h2⟩ := h
  exact ⟨c, (hg.block g (heapLt hc) hr).trans hc, h2⟩
/-- what is in the table after the first d single cuts -/
def Single (m : Mk) (d : Nat) (F : Nat → Int) : Prop := NonNeg F ∧ (∀ W, totS F W m.M.toNat m.D.toNat = sumN d (fun c => W c 1 (1 <<< c))) ∧ ∀ l r u, d ≤ l → r < 7 → u < 256 → F (idx l r u) = 0
theorem sumN_zero : ∀ n, sumN n (fun _ => 0) = 0
  | 0 => rfl
  | n + 1 => by show sumN n _ + 0 = 0; rw [sumN_zero n]; rfl
theorem single_none (m : Mk) : Single m 0 (fun _ => 0) := by
  refine ⟨fun _ => Int.le_refl _, fun W => ?_, fun _ _ _ _ _ _ => rfl⟩
  show totS (fun _ => 0) W _ _ = 0
  unfold totS colS rowS
  simp only [Int.zero_mul, sumN_zero]
theorem single_next {m : Mk} {d : Nat} {F : Nat → Int} (h : Single m d F) (hd : d < m.D.toNat) (h1 : 1 ≤ m.M) (h6 : m.M ≤ 6) (h8 : m.D ≤ 8) : Single m (d + 1) (upd F (idx d 1 (1 <<< d)) 1) := by
  obtain ⟨a, b, c⟩ := h
  have hs := (two_pow (show d < 8 by omega)).2
  refine ⟨upd_nonneg a (by omega), fun W => ?_, fun l r u hl hr hu => ?_⟩
  · rw [totS_upd F W 1 (by omega) (Nat.le_refl 1) (by omega) hs, b W, if_pos hd, Int.one_mul]
    rfl
  · unfold upd
    rw [if_neg]
    · exact c l r u (by omega) hr hu
    · intro e
      have := (idx_inj hr (by omega) hu hs e).1
      omega

/-- what a call answers that gives a table of its own: its sums are S -/
def Tabled (w : World) (m : Mk) (S : (Nat → Nat → Nat → Int) → Int) (e : Ending) (w' : World) : Prop :=
  ∃ g F, e = .returned (.pointer (some ⟨g, 0, none⟩)) ∧ w.heap.size ≤ g ∧ Table w' g F ∧ NonNeg F ∧ (∀ W, totS F W m.M.toNat m.D.toNat = S W) ∧ Below w.heap.size w w'

set_option maxRecDepth 100000 in
set_option maxHeartbeats 1000000 in
theorem countSingle_any (m : Mk) (w : World) (hm : m.ok = true) :
    Calls Try.prog 52 #[.agg #[.int .i64 m.C, .int .i64 m.D, .int .i64 m.S, .int .i64 m.M, .int .i64 m.L]] w
      (Tabled w m (fun W => sumN m.D.toNat (fun c => W c 1 (1 <<< c)))) := by
  obtain ⟨m1, m2, m3, m4, m5, m6, m7, m8, m9, m10, m11⟩ := Mk.ok_true hm
  clear hm
  have b0 := (Below.refl w.heap.size w).alloc (Nat.le_refl _) (.cells #[.int .i64 m.C, .int .i64 m.D, .int .i64 m.S, .int .i64 m.M, .int .i64 m.L] 25)
  have HT : Hid (Table ((w.alloc (.cells #[.int .i64 m.C, .int .i64 m.D, .int .i64 m.S, .int .i64 m.M, .int .i64 m.L] 25)).alloc (.cells Try.zeroCells87 87)) (w.heap.size + 1) (fun _ => 0)) := Lib.hid (by
    have := table_new (w.alloc (.cells #[.int .i64 m.C, .int .i64 m.D, .int .i64 m.S, .int .i64 m.M, .int .i64 m.L] 25))
    rwa [show (w.alloc (.cells #[.int .i64 m.C, .int .i64 m.D, .int .i64 m.S, .int .i64 m.M, .int .i64 m.L] 25)).heap.size = w.heap.size + 1 by simp] at this)
  have B0 := Lib.hid (b0.alloc (by simp) (.cells Try.zeroCells87 87))
  clear b0
  go_enter Try.func52, Try.ntmps52
  go_wp2
  go_loopw [8] (fun x wr => ∃ (d : Nat) (F : Nat → Int), x = .int .i64 d ∧ d ≤ 8 ∧ (d : Int) ≤ m.D ∧ Table wr (w.heap.size + 1) F ∧ Hid (Single m d F) ∧ Below w.heap.size w wr) (fun x _ => 9 - (intOf x).toNat)
  case atStart => exact ⟨0, _, rfl, by omega, by omega, HT.out, Lib.hid (single_none m), B0.out⟩
  case round =>
    obtain ⟨d, F, rfl, hd8, hdD, htab, hF, hb⟩ := hrel
    by_cases hlt : (d : Int) < m.D
    · have i0 : (0 : Int) ≤ (d : Int) := by omega
      have i1 : (d : Int) < 8 := by omega
      obtain ⟨hw, hsh⟩ := two_pow (show d < 8 by omega)
      have HN := Lib.hid (single_next hF.out (show d < m.D.toNat by omega) m7 (by omega) m4)
      have hz := hF.out.2.2 d 1 (1 <<< d) (Nat.le_refl _) (by omega) hsh
      generalize hs : 1 <<< d = sh at hw hsh HN hz
      have hi : idx d 1 sh = d * 1792 + 256 + sh := by unfold idx; omega
      have hst := htab.cell (show idx d 1 sh < 14336 from idx_lt (by omega) (by omega) hsh)
      have hfz := htab.frozen (idx d 1 sh)
      have HP := Lib.hid (Table.put (i := idx d 1 sh) htab 1)
      rw [hz] at hst HP
      rw [hi] at hst hfz HN HP
      have j0 : (0 : Int) ≤ (sh : Int) := by omega
      have j1 : (sh : Int) < 256 := by omega
      clear hs hz hi htab
      go_wp2
      go_region
      clear hw hst hfz
      go_wp2
      go_roundw
      case rel => exact ⟨d + 1, _, by go_num, by omega, by omega, HP.out, HN, (hb.setCell (by simp) _).drew⟩
      case measure => simp [intOf]; omega
    · have HDD := Lib.hid (show d = m.D.toNat by omega)
      go_wp2
      go_ret
      exact ⟨w.heap.size + 1, F, rfl, by omega, htab, hF.out.1, fun W => (hF.out.2.1 W).trans (by rw [HDD.out]), hb⟩

theorem or_i64 (a b : Nat) (ha : a < 256) (hb : b < 256) : bits .or .i64 (a : Int) (b : Int) = ((a ||| b : Nat) : Int) := by
  have hx : a ||| b < 256 := Nat.or_lt_two_pow (n := 8) ha hb
  have e : ∀ x : Nat, x < 256 → (BitVec.ofInt 64 (x : Int)).toNat = x := fun x h => by
    rw [BitVec.ofInt_natCast, BitVec.toNat_ofNat]; exact Nat.mod_eq_of_lt (by omega)
  show IntKind.i64.wrap ((BitVec.ofInt 64 (a : Int) ||| BitVec.ofInt 64 (b : Int)).toNat : Int) = _
  rw [BitVec.toNat_or, e a ha, e b hb, IntKind.wrap_i64]
  omega

end Go.Proofs.Ytnblifpogbhjgaa
