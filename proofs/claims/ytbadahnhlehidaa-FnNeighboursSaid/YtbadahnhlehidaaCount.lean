/- CountKeys of the program: bits, and the table of states. CountKeys of the program: a state is carried on. CountKeys of the program: the tables one after the other. CountKeys of the program: the sum over the last table. CountKeys of the program, and the law. -/
import Derived.Test.YtbadahnhlehidaaDpMath
import Derived.RegionTactic
import Derived.BigRegion
import Derived.Deep.MidRow
import Derived.Test.YtbadahnhlehidaaFill
import Derived.Test.YtbadahnhlehidaaSCount
namespace Go.Proofs.Ytbadahnhlehidaa
open Go.RowKit

/-- the table of states in memory -/
def Table (w : World) (g : Nat) (F : Nat → Int) : Prop := w.rowIs g 136 14336 (fun j => .int .i64 (F j))
def isZero : Value → Bool
  | .int .i64 n => n == 0
  | _ => false
theorem isZero_is {v : Value} (h : isZero v = true) : v = .int .i64 0 := by
  unfold isZero at h
  split at h
  · next n => obtain rfl : n = 0 := by simpa using h
              rfl
  · cases h
set_option maxRecDepth 1000000 in
theorem zeros_all : Try.zeroCells136.toList.all isZero = true := by kernel_rfl
theorem zeros_of {z : Array Value} (h : z.toList.all isZero = true) {i : Nat} (hi : i < z.size) : z[i]? = some (.int .i64 0) := by
  have hv : z[i]? = some z[i] := Array.getElem?_eq_getElem hi
  rw [hv, isZero_is (List.all_eq_true.1 h z[i] (by simp))]
theorem zeros_at {i : Nat} (h : i < 14336) : Try.zeroCells136[i]? = some (.int .i64 0) :=
  zeros_of zeros_all (by rw [Try.zeroCells136_size]; exact h)
theorem table_new (w : World) : Table (w.alloc (.cells Try.zeroCells136 136)) w.heap.size (fun _ => 0) :=
  ⟨_, heap_alloc_new w _, Try.zeroCells136_size, fun _ hi => zeros_at hi⟩

def oA (u : Nat) : Int := bits .and .u64 ((u : Int) / 2) 6148914691236517205
def oB (u : Nat) : Int := bits .and .u64 (u : Int) 6148914691236517205
def oC (u : Nat) : Int := bits .and .u64 ((oA u + oB u) / 4) 3689348814741910323
def oD (u : Nat) : Int := bits .and .u64 (oA u + oB u) 3689348814741910323
def inByte (x : Int) : Bool := decide (0 ≤ x) && decide (x ≤ 255)
theorem ones_facts : ∀ u, u < 256 → (inByte (oA u) && (inByte (oB u) && (inByte (oC u) && (inByte (oD u) && (decide (bits .and .u64 ((oC u + oD u) / 16 + (oC u + oD u)) 1085102592571150095 = (pc u : Int)) && (decide (pc u ≤ 8) && decide (bits .and .i64 (pc u : Int) 127 = (pc u : Int)))))))) = true := by decide +kernel

set_option maxRecDepth 100000 in
theorem onesCount64_any (u : Nat) (hu : u < 256) (w : World) :
    Calls Try.prog 153 #[.int .u64 (u : Int)] w fun e w' => e = .returned (.int .i64 (pc u)) ∧ w = w' := by
  have hf := ones_facts u hu
  simp only [Bool.and_eq_true, decide_eq_true_eq, inByte] at hf
  obtain ⟨⟨a0, a1⟩, ⟨b0, b1⟩, ⟨c0, c1⟩, ⟨d0, d1⟩, h5, h6, h7⟩ := hf
  have e1 : bits .and .u64 ((u : Int) / 2) 6148914691236517205 = oA u := rfl
  have e2 : bits .and .u64 (u : Int) 6148914691236517205 = oB u := rfl
  have e3 : bits .and .u64 ((oA u + oB u) / 4) 3689348814741910323 = oC u := rfl
  have e4 : bits .and .u64 (oA u + oB u) 3689348814741910323 = oD u := rfl
  generalize oA u = a at *
  generalize oB u = b at *
  generalize oC u = c at *
  generalize oD u = d at *
  have p0 : (0 : Int) ≤ (pc u : Int) := by omega
  have p1 : (pc u : Int) ≤ 8 := by omega
  generalize (pc u : Int) = p at *
  have k1 : p / 256 = 0 := by omega
  have k2 : p / 65536 = 0 := by omega
  have k3 : p / 4294967296 = 0 := by omega
  have hu' : (u : Int) < 256 := by omega
  clear h6
  go_enter Try.func153, Try.ntmps153
  go_wp2
  go_ret
  exact ⟨rfl, rfl⟩

theorem onesCount_any (u : Nat) (hu : u < 256) (w : World) :
    Calls Try.prog 146 #[.int .u64 (u : Int)] w fun e w' => e = .returned (.int .i64 (pc u)) ∧ w = w' := by
  go_enter Try.func146, Try.ntmps146
  go_wp2_with (go_at_call 153; refine (onesCount64_any u hu _).mono ?_; rintro e w' ⟨rfl, rfl⟩)
  go_ret
  exact ⟨rfl, rfl⟩

theorem two_pow {d : Nat} (h : d < 8) : IntKind.i64.wrap (2 ^ d) = ((1 <<< d : Nat) : Int) ∧ 1 <<< d < 256 := by
  have : ∀ d, d < 8 → (IntKind.i64.wrap (2 ^ d) = ((1 <<< d : Nat) : Int) ∧ 1 <<< d < 256) := by decide
  exact this d h
theorem Table.put {w : World} {g i : Nat} {F : Nat → Int} (h : Table w g F) (x : Int) : Table (w.setCell ⟨g, i, none⟩ (.int .i64 (F i + x))) g (upd F i x) :=
  (World.rowIs.set h i (.int .i64 (F i + x))).congr (fun j _ => by
    unfold upd
    by_cases e : j = i
    · subst e; rw [if_pos rfl, if_pos rfl]
    · rw [if_neg e, if_neg e])
theorem Table.lt {w : World} {g : Nat} {F : Nat → Int} (h : Table w g F) : g < w.heap.size := by
  obtain ⟨c, hc, _⟩ := h
  exact heapLt hc
theorem Table.on {w w' : World} {g : Nat} {F : Nat → Int} (h : Table w g F) (hb : Below w.heap.size w w') : Table w' g F := by
  obtain ⟨c, hc, h2⟩ := h
  exact ⟨c, (hb.block g (heapLt hc)).trans hc, h2⟩
theorem Table.grown {w w' : World} {g : Nat} {F : Nat → Int} {row : Option Nat} (h : Table w g F) (hg : w.grownBy w' row) (hr : some g ≠ row) : Table w' g F := by
  obtain ⟨c, hc, h2⟩ := h
  exact ⟨c, (hg.block g (heapLt hc) hr).trans hc, h2⟩
/-- what is in the table after the first d single cuts -/
def Single (m : Mk) (d : Nat) (F : Nat → Int) : Prop := NonNeg F ∧ (∀ W, totS F W m.M.toNat m.D.toNat = sumN d (fun c => W c 1 (1 <<< c))) ∧ ∀ l r u, d ≤ l → r < 7 → u < 256 → F (idx l r u) = 0
theorem sumN_zero : ∀ n, sumN n (fun _ => 0) = 0
  | 0 => rfl
  | n + 1 => by show sumN n _ + 0 = 0; rw [sumN_zero n]; rfl
theorem single_none (m : Mk) : Single m 0 (fun _ => 0) := by
  refine ⟨fun _ => Int.le_refl _, fun W => ?_, fun _ _ _ _ _ _ => rfl⟩
  show totS (fun _ => 0) W _ _ = 0
  unfold totS colS rowS
  simp only [Int.zero_mul, sumN_zero]
theorem single_next {m : Mk} {d : Nat} {F : Nat → Int} (h : Single m d F) (hd : d < m.D.toNat) (h1 : 1 ≤ m.M) (h6 : m.M ≤ 6) (h8 : m.D ≤ 8) : Single m (d + 1) (upd F (idx d 1 (1 <<< d)) 1) := by
  obtain ⟨a, b, c⟩ := h
  have hs := (two_pow (show d < 8 by omega)).2
  refine ⟨upd_nonneg a (by omega), fun W => ?_, fun l r u hl hr hu => ?_⟩
  · rw [totS_upd F W 1 (by omega) (Nat.le_refl 1) (by omega) hs, b W, if_pos hd, Int.one_mul]
    rfl
  · unfold upd
    rw [if_neg]
    · exact c l r u (by omega) hr hu
    · intro e
      have := (idx_inj hr (by omega) hu hs e).1
      omega

/-- what a call answers that gives a table of its own: its sums are S -/
def Tabled (w : World) (m : Mk) (S : (Nat → Nat → Nat → Int) → Int) (e : Ending) (w' : World) : Prop :=
  ∃ g F, e = .returned (.pointer (some ⟨g, 0, none⟩)) ∧ w.heap.size ≤ g ∧ Table w' g F ∧ NonNeg F ∧ (∀ W, totS F W m.M.toNat m.D.toNat = S W) ∧ Below w.heap.size w w'

set_option maxRecDepth 100000 in
set_option maxHeartbeats 1000000 in
theorem countSingle_any (m : Mk) (w : World) (hm : m.ok = true) :
    Calls Try.prog 129 #[.agg #[.int .i64 m.C, .int .i64 m.D, .int .i64 m.S, .int .i64 m.M, .int .i64 m.L]] w
      (Tabled w m (fun W => sumN m.D.toNat (fun c => W c 1 (1 <<< c)))) := by
  obtain ⟨m1, m2, m3, m4, m5, m6, m7, m8, m9, m10, m11⟩ := Mk.ok_true hm
  clear hm
  have b0 := (Below.refl w.heap.size w).alloc (Nat.le_refl _) (.cells #[.int .i64 m.C, .int .i64 m.D, .int .i64 m.S, .int .i64 m.M, .int .i64 m.L] 29)
  have HT : Hid (Table ((w.alloc (.cells #[.int .i64 m.C, .int .i64 m.D, .int .i64 m.S, .int .i64 m.M, .int .i64 m.L] 29)).alloc (.cells Try.zeroCells136 136)) (w.heap.size + 1) (fun _ => 0)) := Lib.hid (by
    have := table_new (w.alloc (.cells #[.int .i64 m.C, .int .i64 m.D, .int .i64 m.S, .int .i64 m.M, .int .i64 m.L] 29))
    rwa [show (w.alloc (.cells #[.int .i64 m.C, .int .i64 m.D, .int .i64 m.S, .int .i64 m.M, .int .i64 m.L] 29)).heap.size = w.heap.size + 1 by simp] at this)
  have B0 := Lib.hid (b0.alloc (by simp) (.cells Try.zeroCells136 136))
  clear b0
  go_enter Try.func129, Try.ntmps129
  go_wp2
  go_loopw [8] (fun x wr => ∃ (d : Nat) (F : Nat → Int), x = .int .i64 d ∧ d ≤ 8 ∧ (d : Int) ≤ m.D ∧ Table wr (w.heap.size + 1) F ∧ Hid (Single m d F) ∧ Below w.heap.size w wr) (fun x _ => 9 - (intOf x).toNat)
  case atStart => exact ⟨0, _, rfl, by omega, by omega, HT.out, Lib.hid (single_none m), B0.out⟩
  case round =>
    obtain ⟨d, F, rfl, hd8, hdD, htab, hF, hb⟩ := hrel
    by_cases hlt : (d : Int) < m.D
    · have i0 : (0 : Int) ≤ (d : Int) := by omega
      have i1 : (d : Int) < 8 := by omega
      obtain ⟨hw, hsh⟩ := two_pow (show d < 8 by omega)
      have HN := Lib.hid (single_next hF.out (show d < m.D.toNat by omega) m7 (by omega) m4)
      have hz := hF.out.2.2 d 1 (1 <<< d) (Nat.le_refl _) (by omega) hsh
      generalize hs : 1 <<< d = sh at hw hsh HN hz
      have hi : idx d 1 sh = d * 1792 + 256 + sh := by unfold idx; omega
      have hst := htab.cell (show idx d 1 sh < 14336 from idx_lt (by omega) (by omega) hsh)
      have hfz := htab.frozen (idx d 1 sh)
      have HP := Lib.hid (Table.put (i := idx d 1 sh) htab 1)
      rw [hz] at hst HP
      rw [hi] at hst hfz HN HP
      have j0 : (0 : Int) ≤ (sh : Int) := by omega
      have j1 : (sh : Int) < 256 := by omega
      clear hs hz hi htab
      go_wp2
      go_region
      clear hw hst hfz
      go_wp2
      go_roundw
      case rel => exact ⟨d + 1, _, by go_num, by omega, by omega, HP.out, HN, (hb.setCell (by simp) _).drew⟩
      case measure => simp [intOf]; omega
    · have HDD := Lib.hid (show d = m.D.toNat by omega)
      go_wp2
      go_ret
      exact ⟨w.heap.size + 1, F, rfl, by omega, htab, hF.out.1, fun W => (hF.out.2.1 W).trans (by rw [HDD.out]), hb⟩

theorem or_i64 (a b : Nat) (ha : a < 256) (hb : b < 256) : bits .or .i64 (a : Int) (b : Int) = ((a ||| b : Nat) : Int) := by
  have hx : a ||| b < 256 := Nat.or_lt_two_pow (n := 8) ha hb
  have e : ∀ x : Nat, x < 256 → (BitVec.ofInt 64 (x : Int)).toNat = x := fun x h => by
    rw [BitVec.ofInt_natCast, BitVec.toNat_ofNat]; exact Nat.mod_eq_of_lt (by omega)
  show IntKind.i64.wrap ((BitVec.ofInt 64 (a : Int) ||| BitVec.ofInt 64 (b : Int)).toNat : Int) = _
  rw [BitVec.toNat_or, e a ha, e b hb, IntKind.wrap_i64]
  omega

end Go.Proofs.Ytbadahnhlehidaa

namespace Go.Proofs.Ytbadahnhlehidaa
open Go.RowKit

/-- what addLonger answers -/
def Added (w : World) (g : Nat) (F : Nat → Int) (e : Ending) (w' : World) : Prop := e = .returned (.tuple #[]) ∧ Table w' g F ∧ w.grownBy w' (some g)

set_option maxRecDepth 100000 in
set_option maxHeartbeats 4000000 in
theorem addLonger_any (m : Mk) (hm : m.ok = true) (g : Nat) (F : Nat → Int) (l r u : Nat) (x : Int) (w : World) (hT : Table w g F) (hl : (l : Int) < m.D) (hr1 : 1 ≤ r) (hr2 : (r : Int) ≤ m.M) (hu : u < 256) (hx : 0 ≤ x) (hx2 : x ≤ 300000) (hF : NonNeg F) (hb : totS F one3 m.M.toNat m.D.toNat ≤ 1000000) :
    Calls Try.prog 145 #[.pointer (some ⟨g, 0, none⟩), .agg #[.int .i64 m.C, .int .i64 m.D, .int .i64 m.S, .int .i64 m.M, .int .i64 m.L], .int .i64 (l : Int), .int .i64 (r : Int), .int .i64 (u : Int), .int .i64 x] w
      (Added w g (addsN m F l r u x m.D.toNat)) := by
  obtain ⟨m1, m2, m3, m4, m5, m6, m7, m8, m9, m10, m11⟩ := Mk.ok_true hm
  have HM := Lib.hid hm
  have HNN := Lib.hid hF
  have HBB := Lib.hid hb
  clear hm hF hb
  have hgw := hT.lt
  have hx0 := Lib.hid (Boxed.new w 29 m)
  have HT := Lib.hid (hT.on ((Below.refl w.heap.size w).alloc (Nat.le_refl _) (.cells #[.int .i64 m.C, .int .i64 m.D, .int .i64 m.S, .int .i64 m.M, .int .i64 m.L] 29)))
  have HG0 := Lib.hid (show w.grownBy (w.alloc (.cells #[.int .i64 m.C, .int .i64 m.D, .int .i64 m.S, .int .i64 m.M, .int .i64 m.L] 29)) (some g) from ⟨((Below.refl w.heap.size w).alloc (Nat.le_refl _) _).os, ((Below.refl w.heap.size w).alloc (Nat.le_refl _) _).tape, ((Below.refl w.heap.size w).alloc (Nat.le_refl _) _).output, ((Below.refl w.heap.size w).alloc (Nat.le_refl _) _).size, fun i hi _ => ((Below.refl w.heap.size w).alloc (Nat.le_refl _) _).block i hi⟩)
  clear hT
  go_enter Try.func145, Try.ntmps145
  go_wp2
  go_loopw [16] (fun z wr => ∃ c : Nat, z = .int .i64 c ∧ (c : Int) ≤ m.D ∧ Table wr g (addsN m F l r u x c) ∧ Boxed wr w.heap.size 29 m ∧ w.grownBy wr (some g)) (fun z _ => 9 - (intOf z).toNat)
  case atStart => exact ⟨0, rfl, by omega, HT.out, hx0.out, HG0.out⟩
  case round =>
    obtain ⟨c, rfl, hcD, htab, hbox, hgr⟩ := hrel
    by_cases hlt : (c : Int) < m.D
    · obtain ⟨q0, q1, q2, q3, q4⟩ := hbox.cells
      have Hpart : Hid (totS (addsN m F l r u x c) one3 m.M.toNat m.D.toNat ≤ 1000000 + 8 * 300000) := Lib.hid (by
        rw [totS_adds (by omega) (by omega) hu m4 c (by omega)]
        have h1 : sumN c (fun c => if nxtOk m l r c then one3 c (nxtR l r c) (nxtU u c) else 0) ≤ 8 := by
          have h2 : ∀ n, sumN n (fun c => if nxtOk m l r c then one3 c (nxtR l r c) (nxtU u c) else 0) ≤ n := by
            intro n
            induction n with
            | zero => simp [sumN]
            | succ n ih =>
              show sumN n _ + (if nxtOk m l r n then one3 n (nxtR l r n) (nxtU u n) else 0) ≤ _
              have : (if nxtOk m l r n then one3 n (nxtR l r n) (nxtU u n) else 0) ≤ 1 := by unfold one3; split <;> omega
              omega
          have := h2 c
          omega
        have h3 : 0 ≤ sumN c (fun c => if nxtOk m l r c then one3 c (nxtR l r c) (nxtU u c) else 0) := sumN_nonneg (fun i _ => by unfold one3; split <;> omega)
        have h4 := Int.mul_le_mul hx2 h1 h3 (by omega)
        have := HBB.out
        omega)
      have HX := Lib.hid hbox
      have HG := Lib.hid hgr
      have hgw2 := hgr.size
      clear hbox hgr
      rcases hstep : inB ((c : Int) - (l : Int)) (-m.S) m.S with _ | _
      · have HA : Hid (addsN m F l r u x (c + 1) = addsN m F l r u x c) := Lib.hid (by
          show (if nxtOk m l r c = true then _ else addsN m F l r u x c) = _
          rw [if_neg]
          unfold nxtOk
          rw [hstep]; simp)
        go_wp2_with fail
        refine (isStep_at m l c _ _ hstep (by omega) (by omega) (by omega) (by omega) (by omega) (by omega)).mono ?_
        rintro e w3 ⟨rfl, b3⟩
        have HT3 := Lib.hid (htab.on b3)
        have HX3 := Lib.hid (HX.out.on b3)
        have HG3 := Lib.hid (grown_below HG.out b3)
        clear q0 q1 q2 q3 q4 b3 htab hstep
        go_wp2
        go_roundw
        case rel => exact ⟨c + 1, by go_num, by omega, by rw [HA.out]; exact HT3.out, HX3.out, HG3.out⟩
        case measure => simp [intOf]; omega
      · go_wp2_with fail
        refine (isStep_at m l c _ _ hstep (by omega) (by omega) (by omega) (by omega) (by omega) (by omega)).mono ?_
        rintro e w3 ⟨rfl, b3⟩
        have htab3 := htab.on b3
        have HX3 := Lib.hid (HX.out.on b3)
        have HG3 := Lib.hid (grown_below HG.out b3)
        clear q0 q1 q2 q3 q4 b3 htab
        obtain ⟨q0, q1, q2, q3, q4⟩ := HX3.out.cells
        by_cases hcl : c = l
        · by_cases hle : (r : Int) + 1 ≤ m.M
          · have HOK : Hid (nxtOk m l r c = true) := Lib.hid (by unfold nxtOk nxtR; rw [hstep, if_pos hcl]; simp; omega)
            have HA : Hid (addsN m F l r u x (c + 1) = upd (addsN m F l r u x c) (idx c (r + 1) (nxtU u c)) x) := Lib.hid (by
              show (if nxtOk m l r c = true then upd (addsN m F l r u x c) (idx c (nxtR l r c) (nxtU u c)) x else addsN m F l r u x c) = _
              rw [if_pos HOK.out]
              unfold nxtR
              rw [if_pos hcl])
            have hv := nxtU_lt hu (show c < 8 by omega)
            obtain ⟨hw, hsh⟩ := two_pow (show c < 8 by omega)
            have hor : bits .or .i64 (u : Int) ((1 <<< c : Nat) : Int) = ((nxtU u c : Nat) : Int) := or_i64 u (1 <<< c) hu hsh
            have hin := idx_lt (l := c) (r := r + 1) (u := nxtU u c) (by omega) (by omega) hv
            have hent := entry_le (F := addsN m F l r u x c) (M := m.M.toNat) (D := m.D.toNat) (l := c) (r := r + 1) (u := nxtU u c) (adds_nonneg HNN.out hx c) (by omega) (by omega) (by omega) hv
            have hpart := Hpart.out
            have hst := htab3.cell hin
            have hfz := htab3.frozen (idx c (r + 1) (nxtU u c))
            have HP := Table.put (i := idx c (r + 1) (nxtU u c)) htab3 x
            rw [← HA.out] at HP
            have hy0 := adds_nonneg (m := m) (F := F) (l := l) (r := r) (u := u) HNN.out hx c (idx c (r + 1) (nxtU u c))
            generalize addsN m F l r u x c (idx c (r + 1) (nxtU u c)) = y at hst HP hent hy0
            have hi : idx c (r + 1) (nxtU u c) = c * 1792 + (r + 1) * 256 + nxtU u c := by unfold idx; omega
            rw [hi] at hst hfz HP
            clear hi hin HA HOK
            generalize nxtU u c = v at *
            generalize 1 <<< c = sh at *
            have HX4 := Lib.hid ((HX3.out.grown (grown_set (p := ⟨g, c * 1792 + (r + 1) * 256 + v, none⟩) (World.grownBy.refl w3 (some g)) rfl (.int .i64 (y + x))) (by intro e; injection e with e; omega)).drewN 1)
            have HG4 := Lib.hid (grown_dn (grown_set HG3.out (p := ⟨g, c * 1792 + (r + 1) * 256 + v, none⟩) rfl (.int .i64 (y + x))) 1)
            have HP' := Lib.hid HP
            have j0 : (0 : Int) ≤ (v : Int) := by omega
            have j1 : (v : Int) < 256 := by omega
            have j2 : (0 : Int) ≤ (c : Int) := by omega
            have j3 : (c : Int) < 8 := by omega
            have yx : y + x ≤ 4000000 := by omega
            clear HP htab3 hpart hent hstep
            have hcb : ((c : Int) == (l : Int)) = true := by simp; omega
            clear hcl
            go_wp2
            go_region
            clear hw hst hfz hor q0 q1 q2 q3 q4
            go_wp2
            go_roundw
            case rel => exact ⟨c + 1, by go_num, by omega, HP'.out, HX4.out, HG4.out⟩
            case measure => simp [intOf]; omega
          · have HA : Hid (addsN m F l r u x (c + 1) = addsN m F l r u x c) := Lib.hid (by
              show (if nxtOk m l r c = true then _ else addsN m F l r u x c) = _
              rw [if_neg]
              unfold nxtOk nxtR
              rw [if_pos hcl]; simp; omega)
            have HT3 := Lib.hid htab3
            have hcb : ((c : Int) == (l : Int)) = true := by simp; omega
            clear htab3 hstep hcl
            go_wp2
            go_roundw
            case rel => exact ⟨c + 1, by go_num, by omega, by rw [HA.out]; exact HT3.out, HX3.out, HG3.out⟩
            case measure => simp [intOf]; omega
        · have HOK : Hid (nxtOk m l r c = true) := Lib.hid (by unfold nxtOk nxtR; rw [hstep, if_neg hcl]; simp; omega)
          have HA : Hid (addsN m F l r u x (c + 1) = upd (addsN m F l r u x c) (idx c (1) (nxtU u c)) x) := Lib.hid (by
            show (if nxtOk m l r c = true then upd (addsN m F l r u x c) (idx c (nxtR l r c) (nxtU u c)) x else addsN m F l r u x c) = _
            rw [if_pos HOK.out]
            unfold nxtR
            rw [if_neg hcl])
          have hv := nxtU_lt hu (show c < 8 by omega)
          obtain ⟨hw, hsh⟩ := two_pow (show c < 8 by omega)
          have hor : bits .or .i64 (u : Int) ((1 <<< c : Nat) : Int) = ((nxtU u c : Nat) : Int) := or_i64 u (1 <<< c) hu hsh
          have hin := idx_lt (l := c) (r := 1) (u := nxtU u c) (by omega) (by omega) hv
          have hent := entry_le (F := addsN m F l r u x c) (M := m.M.toNat) (D := m.D.toNat) (l := c) (r := 1) (u := nxtU u c) (adds_nonneg HNN.out hx c) (by omega) (by omega) (by omega) hv
          have hpart := Hpart.out
          have hst := htab3.cell hin
          have hfz := htab3.frozen (idx c (1) (nxtU u c))
          have HP := Table.put (i := idx c (1) (nxtU u c)) htab3 x
          rw [← HA.out] at HP
          have hy0 := adds_nonneg (m := m) (F := F) (l := l) (r := r) (u := u) HNN.out hx c (idx c (1) (nxtU u c))
          generalize addsN m F l r u x c (idx c (1) (nxtU u c)) = y at hst HP hent hy0
          have hi : idx c (1) (nxtU u c) = c * 1792 + 256 + nxtU u c := by unfold idx; omega
          rw [hi] at hst hfz HP
          clear hi hin HA HOK
          generalize nxtU u c = v at *
          generalize 1 <<< c = sh at *
          have HX4 := Lib.hid ((HX3.out.grown (grown_set (p := ⟨g, c * 1792 + 256 + v, none⟩) (World.grownBy.refl w3 (some g)) rfl (.int .i64 (y + x))) (by intro e; injection e with e; omega)).drewN 1)
          have HG4 := Lib.hid (grown_dn (grown_set HG3.out (p := ⟨g, c * 1792 + 256 + v, none⟩) rfl (.int .i64 (y + x))) 1)
          have HP' := Lib.hid HP
          have j0 : (0 : Int) ≤ (v : Int) := by omega
          have j1 : (v : Int) < 256 := by omega
          have j2 : (0 : Int) ≤ (c : Int) := by omega
          have j3 : (c : Int) < 8 := by omega
          have yx : y + x ≤ 4000000 := by omega
          clear HP htab3 hpart hent hstep
          have hcb : ((c : Int) == (l : Int)) = false := by simp; omega
          clear hcl
          go_wp2
          go_region
          clear hw hst hfz hor q0 q1 q2 q3 q4
          go_wp2
          go_roundw
          case rel => exact ⟨c + 1, by go_num, by omega, HP'.out, HX4.out, HG4.out⟩
          case measure => simp [intOf]; omega
    · have HC := Lib.hid (show c = m.D.toNat by omega)
      go_wp2
      go_end0
      exact ⟨rfl, by rw [← HC.out]; exact htab, hgr⟩

end Go.Proofs.Ytbadahnhlehidaa

namespace Go.Proofs.Ytbadahnhlehidaa
open Go.RowKit

theorem index_at (cs : Array Value) (u : Nat) (n : Int) (w : World) (hu : u < 256) (h : cs[u]? = some (.int .i64 n)) :
    (Instr.index 133 (.agg cs) (.int .i64 (u : Int))).run Try.prog w = .ok (.int .i64 n) w := by
  have h1 : (0 : Int) ≤ (u : Int) ∧ (u : Int) < ((256 : Nat) : Int) := by omega
  simp [Instr.index, run_underlying Try.underlying133, asIntOf, h1, go_sem]
  rw [if_pos hu, h]; rfl
/-- the cells of one run -/
def runCells (B : Nat → Int) (l r : Nat) : List Value := (List.range 256).map (fun u => Value.int .i64 (B (idx l r u)))
theorem runCells_len (B : Nat → Int) (l r : Nat) : (runCells B l r).length = 256 := by simp [runCells]
theorem runCells_at (B : Nat → Int) (l r u : Nat) (hu : u < 256) : (runCells B l r).toArray[u]? = some (.int .i64 (B (idx l r u))) := by
  unfold runCells
  rw [List.getElem?_toArray, List.getElem?_map, List.getElem?_range hu]; rfl
theorem Table.cellsAt {w : World} {g : Nat} {B : Nat → Int} (h : Table w g B) (l r : Nat) (hl : l < 8) (hr : r < 7) : w.rangeAt g (l * 1792 + r * 256) (runCells B l r) := by
  intro j v hv
  have hj : j < 256 := by have := (List.getElem?_eq_some_iff.1 hv).1; rwa [runCells_len] at this
  unfold runCells at hv
  rw [List.getElem?_map, List.getElem?_range hj] at hv
  have hv' : Value.int .i64 (B (idx l r j)) = v := by simpa using hv
  have := h.cell (idx_lt hl hr hj)
  rw [← hv']
  exact this

/-- what has been carried on: all of the states before cut l, of it r runs, and of the next run the first u sets -/
def Part (m : Mk) (B : Nat → Int) (l r u : Nat) (F : Nat → Int) : Prop :=
  NonNeg F ∧ ∀ W, totS F W m.M.toNat m.D.toNat = totS B (nextW m W) m.M.toNat l + colS B (nextW m W) l r + rowS B (nextW m W) l (r + 1) u
theorem part_zero (m : Mk) (B : Nat → Int) : Part m B 0 0 0 (fun _ => 0) := by
  refine ⟨fun _ => Int.le_refl _, fun W => ?_⟩
  show totS (fun _ => 0) W _ _ = 0
  unfold totS colS rowS
  simp only [Int.zero_mul, sumN_zero]
theorem part_run {m : Mk} {B F : Nat → Int} {l r : Nat} (h : Part m B l r 256 F) : Part m B l (r + 1) 0 F := by
  refine ⟨h.1, fun W => ?_⟩
  rw [h.2 W]
  show _ = _ + (colS B (nextW m W) l r + rowS B (nextW m W) l (r + 1) 256) + 0
  omega
theorem part_cut {m : Mk} {B F : Nat → Int} {l : Nat} (h : Part m B l m.M.toNat 0 F) : Part m B (l + 1) 0 0 F := by
  refine ⟨h.1, fun W => ?_⟩
  rw [h.2 W]
  show totS B (nextW m W) m.M.toNat l + colS B (nextW m W) l m.M.toNat + 0 = (totS B (nextW m W) m.M.toNat l + colS B (nextW m W) l m.M.toNat) + 0 + 0
  omega
theorem part_skip {m : Mk} {B F : Nat → Int} {l r u : Nat} (h : Part m B l r u F) (h0 : B (idx l (r + 1) u) = 0) : Part m B l r (u + 1) F := by
  refine ⟨h.1, fun W => ?_⟩
  rw [h.2 W]
  show _ = _ + _ + (rowS B (nextW m W) l (r + 1) u + B (idx l (r + 1) u) * nextW m W l (r + 1) u)
  rw [h0, Int.zero_mul]; omega
theorem part_add {m : Mk} {B F : Nat → Int} {l r u : Nat} (h : Part m B l r u F) (h0 : 0 ≤ B (idx l (r + 1) u)) (hM0 : 0 ≤ m.M) (hM : m.M ≤ 6) (hu : u < 256) (hD : m.D ≤ 8) : Part m B l r (u + 1) (addsN m F l (r + 1) u (B (idx l (r + 1) u)) m.D.toNat) := by
  refine ⟨adds_nonneg h.1 h0 _, fun W => ?_⟩
  rw [totS_adds hM0 hM hu hD m.D.toNat (Nat.le_refl _), h.2 W]
  show _ = _ + _ + (rowS B (nextW m W) l (r + 1) u + B (idx l (r + 1) u) * nextW m W l (r + 1) u)
  unfold nextW
  omega
theorem part_bound {m : Mk} {B F : Nat → Int} {l r u : Nat} (h : Part m B l r u F) (hB : NonNeg B) (hs : totS B one3 m.M.toNat m.D.toNat ≤ 100000) (hD : m.D ≤ 8) (hl : l < m.D.toNat) (hr : r < m.M.toNat) (hu : u ≤ 256) : totS F one3 m.M.toNat m.D.toNat ≤ 1000000 := by
  rw [h.2 one3]
  have h1 := part_le (W := nextW m one3) (M := m.M.toNat) (D := m.D.toNat) hB (fun l r u => (next_one hD l r u).1) hl hr hu
  have h2 := tot_next hB hD
  omega

set_option maxRecDepth 100000 in
set_option maxHeartbeats 8000000 in
theorem countLonger_any (m : Mk) (hm : m.ok = true) (g : Nat) (B : Nat → Int) (w : World) (hT : Table w g B) (hB : NonNeg B) (hs : totS B one3 m.M.toNat m.D.toNat ≤ 100000) :
    Calls Try.prog 130 #[.agg #[.int .i64 m.C, .int .i64 m.D, .int .i64 m.S, .int .i64 m.M, .int .i64 m.L], .pointer (some ⟨g, 0, none⟩)] w
      (Tabled w m (fun W => totS B (nextW m W) m.M.toNat m.D.toNat)) := by
  obtain ⟨m1, m2, m3, m4, m5, m6, m7, m8, m9, m10, m11⟩ := Mk.ok_true hm
  have HM := Lib.hid hm
  have HNB := Lib.hid hB
  have HSB := Lib.hid hs
  have HTB := Lib.hid hT
  have hgw := hT.lt
  clear hm hB hs hT
  have b0 := (Below.refl w.heap.size w).alloc (Nat.le_refl _) (.cells #[.int .i64 m.C, .int .i64 m.D, .int .i64 m.S, .int .i64 m.M, .int .i64 m.L] 29)
  have HX0 := Lib.hid ((Boxed.new w 29 m).alloc (.cells Try.zeroCells136 136))
  have HT0 : Hid (Table ((w.alloc (.cells #[.int .i64 m.C, .int .i64 m.D, .int .i64 m.S, .int .i64 m.M, .int .i64 m.L] 29)).alloc (.cells Try.zeroCells136 136)) (w.heap.size + 1) (fun _ => 0)) := Lib.hid (by
    have := table_new (w.alloc (.cells #[.int .i64 m.C, .int .i64 m.D, .int .i64 m.S, .int .i64 m.M, .int .i64 m.L] 29))
    rwa [show (w.alloc (.cells #[.int .i64 m.C, .int .i64 m.D, .int .i64 m.S, .int .i64 m.M, .int .i64 m.L] 29)).heap.size = w.heap.size + 1 by simp] at this)
  have B0 := Lib.hid (b0.alloc (by simp) (.cells Try.zeroCells136 136))
  clear b0
  go_enter Try.func130, Try.ntmps130
  go_wp2
  go_loopw [13] (fun z wr => ∃ (l : Nat) (F : Nat → Int), z = .int .i64 l ∧ (l : Int) ≤ m.D ∧ Hid (Part m B l 0 0 F) ∧ Hid (Table wr (w.heap.size + 1) F) ∧ Hid (Boxed wr w.heap.size 29 m) ∧ Below w.heap.size w wr) (fun z _ => 9 - (intOf z).toNat)
  case atStart => exact ⟨0, _, rfl, by omega, Lib.hid (part_zero m B), HT0, HX0, B0.out⟩
  case round =>
    obtain ⟨l, F0, rfl, hlD, hpart0, htab0, hbox0, hb0⟩ := hrel
    by_cases hl : (l : Int) < m.D
    · obtain ⟨w1, rfl⟩ : ∃ w1 : World, w1 = wr := ⟨_, rfl⟩
      have HB0' := Lib.hid hb0
      clear hb0
      go_wp2
      go_loopw [7] (fun z wr => ∃ (r : Nat) (F : Nat → Int), z = .int .i64 ((r : Int) + 1) ∧ (r : Int) ≤ m.M ∧ Hid (Part m B l r 0 F) ∧ Hid (Table wr (w.heap.size + 1) F) ∧ Hid (Boxed wr w.heap.size 29 m) ∧ Below w.heap.size w wr) (fun z _ => 9 - (intOf z).toNat)
      case atStart => exact ⟨0, F0, by go_num, by omega, hpart0, htab0, hbox0, HB0'.out⟩
      case round =>
        clear hpart0 htab0 hbox0 HB0'
        obtain ⟨r, F1, rfl, hrM, hpart1, htab1, hbox1, hb1⟩ := hrel
        obtain ⟨q0, q1, q2, q3, q4⟩ := hbox1.out.cells
        by_cases hr : (r : Int) < m.M
        · obtain ⟨w2, rfl⟩ : ∃ w2 : World, w2 = wr := ⟨_, rfl⟩
          have hle : (r : Int) + 1 ≤ m.M := by omega
          have HR := Lib.hid (Table.cellsAt (HTB.out.on hb1) l (r + 1) (by omega) (by omega))
          have hlen := runCells_len B l (r + 1)
          have hix := fun (u : Nat) (hu : u < 256) (W : World) => index_at (runCells B l (r + 1)).toArray u _ W hu (runCells_at B l (r + 1) u hu)
          generalize runCells B l (r + 1) = cs at HR hlen hix
          have HIX := Lib.hid hix
          have HLEN := Lib.hid hlen
          have HB1 := Lib.hid hb1
          clear hix hlen hb1
          have i0 : (0 : Int) ≤ (l : Int) := by omega
          have i1 : (l : Int) < 8 := by omega
          have i2 : (0 : Int) ≤ (r : Int) + 1 := by omega
          have i3 : (r : Int) + 1 < 7 := by omega
          go_wp2_with fail
          refine wp_load_mid 133 _ rfl g (l * 1792 + (r + 1) * 256) rfl cs _ HR.out Try.underlying133 rfl (by rw [HLEN.out]; kernel_rfl) ?_
          go_wp2
          clear HR i2 i3
          go_loopw [29] (fun z wr => ∃ (u : Nat) (F : Nat → Int), z = .int .i64 (u : Int) ∧ u ≤ 256 ∧ Hid (Part m B l r u F) ∧ Hid (Table wr (w.heap.size + 1) F) ∧ Hid (Boxed wr w.heap.size 29 m) ∧ Below w.heap.size w wr) (fun z _ => 257 - (intOf z).toNat)
          case atStart => exact ⟨0, F1, rfl, by omega, hpart1, htab1, hbox1, HB1.out⟩
          case round =>
            clear hpart1 htab1 hbox1 HB1 q0 q1 q2 q3 q4
            obtain ⟨u, F, rfl, hu, hpart, htab, hbox, hb⟩ := hrel
            obtain ⟨q0, q1, q2, q3, q4⟩ := hbox.out.cells
            by_cases hlt : u < 256
            · obtain ⟨w3, rfl⟩ : ∃ w3 : World, w3 = wr := ⟨_, rfl⟩
              have hix := HIX.out u hlt
              have HB3 := Lib.hid hb
              have ult : (u : Int) < 256 := by omega
              clear hb
              have HX0 := HNB.out (idx l (r + 1) u)
              have HX1 := entry_le (F := B) (M := m.M.toNat) (D := m.D.toNat) (l := l) (r := r + 1) (u := u) HNB.out (by omega) (by omega) (by omega) hlt
              have HX2 : B (idx l (r + 1) u) ≤ 100000 := by have := HSB.out; omega
              by_cases hpos : 0 < B (idx l (r + 1) u)
              · have HPA := Lib.hid (part_add hpart.out HX0 (by omega) (by omega) hlt (by omega))
                have HPB := Lib.hid (part_bound (u := u) hpart.out HNB.out HSB.out (by omega) (by omega) (by omega) (by omega))
                clear HX1
                generalize B (idx l (r + 1) u) = x at *
                go_wp2_with fail
                refine (addLonger_any m HM.out (w.heap.size + 1) F l (r + 1) u x _ htab.out hl (by omega) (by omega) hlt HX0 (by omega) hpart.out.1 HPB.out).mono ?_
                rintro e w4 ⟨rfl, ht4, g4⟩
                have HT4 := Lib.hid ht4
                have HX4 := Lib.hid (hbox.out.grown g4 (by intro e; injection e with e; omega))
                have HB4 := Lib.hid (below_grown HB3.out g4 (by intro q hq; injection hq with hq; omega))
                clear ht4 g4
                go_wp2
                go_roundw
                case rel => exact ⟨u + 1, _, by go_num, by omega, HPA, HT4, HX4, HB4.out⟩
                case measure => simp [intOf]; omega
              · have HPA := Lib.hid (part_skip hpart.out (by omega))
                clear HX1
                generalize B (idx l (r + 1) u) = x at *
                go_wp2
                go_roundw
                case rel => exact ⟨u + 1, F, by go_num, by omega, HPA, htab, hbox, HB3.out⟩
                case measure => simp [intOf]; omega
            · have hu2 : u = 256 := by omega
              subst hu2
              have HPR := Lib.hid (part_run hpart.out)
              have HBB := Lib.hid hb
              clear hb hpart
              go_wp2
              go_roundw
              case rel => exact ⟨r + 1, F, by go_num, by omega, HPR, htab, hbox, HBB.out⟩
              case measure => simp [intOf]; omega
        · have hr2 : r = m.M.toNat := by omega
          have HPC := Lib.hid (part_cut (hr2 ▸ hpart1.out))
          have HBB := Lib.hid hb1
          clear hb1 hpart1
          go_wp2
          go_roundw
          case rel => exact ⟨l + 1, F1, by go_num, by omega, HPC, htab1, hbox1, HBB.out⟩
          case measure => simp [intOf]; omega
    · have hl2 : l = m.D.toNat := by omega
      have HF : Hid (∀ W, totS F0 W m.M.toNat m.D.toNat = totS B (nextW m W) m.M.toNat m.D.toNat) := Lib.hid (by
        intro W
        rw [hpart0.out.2 W, hl2]
        show _ + 0 + 0 = _
        omega)
      have HN := Lib.hid hpart0.out.1
      clear hpart0
      go_wp2
      go_ret
      exact ⟨w.heap.size + 1, F0, rfl, by omega, htab0.out, HN.out, HF.out, hb0⟩

end Go.Proofs.Ytbadahnhlehidaa

namespace Go.Proofs.Ytbadahnhlehidaa
open Go.RowKit

theorem least_range (m : Mk) (l r u : Nat) : 0 ≤ leastW m l r u ∧ leastW m l r u ≤ one3 l r u := by
  unfold leastW one3; split <;> omega
/-- what has been added up -/
def sofar (m : Mk) (F : Nat → Int) (l r u : Nat) : Int := totS F (leastW m) m.M.toNat l + colS F (leastW m) l r + rowS F (leastW m) l (r + 1) u
theorem sofar_range {m : Mk} {F : Nat → Int} {l r u : Nat} (h : NonNeg F) (hs : totS F one3 m.M.toNat m.D.toNat ≤ 300000) (hl : l < m.D.toNat) (hr : r < m.M.toNat) (hu : u ≤ 256) : 0 ≤ sofar m F l r u ∧ sofar m F l r u ≤ 300000 := by
  have h0 : ∀ l r u, 0 ≤ leastW m l r u := fun l r u => (least_range m l r u).1
  have h1 := part_le (W := leastW m) (M := m.M.toNat) (D := m.D.toNat) h h0 hl hr hu
  have h2 := totS_le (W := leastW m) (W' := one3) (M := m.M.toNat) (n := m.D.toNat) h (fun l r u => (least_range m l r u).2)
  have h3 := totS_nonneg (M := m.M.toNat) (n := l) h h0
  have h4 := colS_nonneg (l := l) (n := r) h h0
  have h5 := rowS_nonneg (l := l) (r := r + 1) (n := u) h h0
  unfold sofar; omega
theorem sofar_yes {m : Mk} {F : Nat → Int} {l r u : Nat} (h : m.L ≤ (pc u : Int)) : sofar m F l r (u + 1) = sofar m F l r u + F (idx l (r + 1) u) := by
  unfold sofar
  show _ + _ + (rowS F (leastW m) l (r + 1) u + F (idx l (r + 1) u) * leastW m l (r + 1) u) = _
  rw [show leastW m l (r + 1) u = 1 by unfold leastW; rw [if_pos h]]; omega
theorem sofar_no {m : Mk} {F : Nat → Int} {l r u : Nat} (h : ¬ m.L ≤ (pc u : Int)) : sofar m F l r (u + 1) = sofar m F l r u := by
  unfold sofar
  show _ + _ + (rowS F (leastW m) l (r + 1) u + F (idx l (r + 1) u) * leastW m l (r + 1) u) = _
  rw [show leastW m l (r + 1) u = 0 by unfold leastW; rw [if_neg h]]; omega
theorem sofar_run (m : Mk) (F : Nat → Int) (l r : Nat) : sofar m F l (r + 1) 0 = sofar m F l r 256 := by
  unfold sofar
  show _ + (colS F (leastW m) l r + rowS F (leastW m) l (r + 1) 256) + 0 = _
  omega
theorem sofar_cut (m : Mk) (F : Nat → Int) (l : Nat) : sofar m F (l + 1) 0 0 = sofar m F l m.M.toNat 0 := by
  unfold sofar
  show (totS F (leastW m) m.M.toNat l + colS F (leastW m) l m.M.toNat) + 0 + 0 = _ + _ + 0
  omega
theorem sofar_zero (m : Mk) (F : Nat → Int) : sofar m F 0 0 0 = 0 := rfl
theorem sofar_end (m : Mk) (F : Nat → Int) : sofar m F m.D.toNat 0 0 = totS F (leastW m) m.M.toNat m.D.toNat := by
  unfold sofar
  show _ + 0 + 0 = _
  omega

set_option maxRecDepth 100000 in
set_option maxHeartbeats 8000000 in
theorem countWithLeast_any (m : Mk) (hm : m.ok = true) (g : Nat) (B : Nat → Int) (w : World) (hT : Table w g B) (hB : NonNeg B) (hs : totS B one3 m.M.toNat m.D.toNat ≤ 300000) :
    Calls Try.prog 131 #[.agg #[.int .i64 m.C, .int .i64 m.D, .int .i64 m.S, .int .i64 m.M, .int .i64 m.L], .pointer (some ⟨g, 0, none⟩)] w
      fun e w' => e = .returned (.int .i64 (totS B (leastW m) m.M.toNat m.D.toNat)) ∧ Below w.heap.size w w' := by
  obtain ⟨m1, m2, m3, m4, m5, m6, m7, m8, m9, m10, m11⟩ := Mk.ok_true hm
  have HNB := Lib.hid hB
  have HSB := Lib.hid hs
  have HTB := Lib.hid hT
  have hgw := hT.lt
  clear hm hB hs hT
  have B0 := Lib.hid ((Below.refl w.heap.size w).alloc (Nat.le_refl _) (.cells #[.int .i64 m.C, .int .i64 m.D, .int .i64 m.S, .int .i64 m.M, .int .i64 m.L] 29))
  have HX0 := Lib.hid (Boxed.new w 29 m)
  go_enter Try.func131, Try.ntmps131
  go_wp2
  go_loopw [5, 12] (fun s z wr => ∃ (l : Nat) (t : Int), s = .int .i64 t ∧ z = .int .i64 l ∧ (l : Int) ≤ m.D ∧ Hid (t = sofar m B l 0 0) ∧ Hid (Boxed wr w.heap.size 29 m) ∧ Below w.heap.size w wr) (fun _ z _ => 9 - (intOf z).toNat)
  case atStart => exact ⟨0, 0, rfl, rfl, by omega, Lib.hid (sofar_zero m B).symm, HX0, B0.out⟩
  case round =>
    clear HX0 B0
    obtain ⟨l, t0, rfl, rfl, hlD, HS0, hbox0, hb0⟩ := hrel
    obtain ⟨q0, q1, q2, q3, q4⟩ := hbox0.out.cells
    by_cases hl : (l : Int) < m.D
    · obtain ⟨w1, rfl⟩ : ∃ w1 : World, w1 = wr := ⟨_, rfl⟩
      have HB0' := Lib.hid hb0
      clear hb0
      go_wp2
      clear q0 q1 q2 q3 q4
      go_loopw [5, 7] (fun s z wr => ∃ (r : Nat) (t : Int), s = .int .i64 t ∧ z = .int .i64 ((r : Int) + 1) ∧ (r : Int) ≤ m.M ∧ Hid (t = sofar m B l r 0) ∧ Hid (Boxed wr w.heap.size 29 m) ∧ Below w.heap.size w wr) (fun _ z _ => 9 - (intOf z).toNat)
      case atStart => exact ⟨0, t0, rfl, by go_num, by omega, HS0, hbox0, HB0'.out⟩
      case round =>
        clear HS0 hbox0 HB0'
        obtain ⟨r, t1, rfl, rfl, hrM, HS1, hbox1, hb1⟩ := hrel
        obtain ⟨q0, q1, q2, q3, q4⟩ := hbox1.out.cells
        by_cases hr : (r : Int) < m.M
        · obtain ⟨w2, rfl⟩ : ∃ w2 : World, w2 = wr := ⟨_, rfl⟩
          have hle : (r : Int) + 1 ≤ m.M := by omega
          have HR := Lib.hid (Table.cellsAt (HTB.out.on hb1) l (r + 1) (by omega) (by omega))
          have hlen := runCells_len B l (r + 1)
          have hix := fun (u : Nat) (hu : u < 256) (W : World) => index_at (runCells B l (r + 1)).toArray u _ W hu (runCells_at B l (r + 1) u hu)
          generalize runCells B l (r + 1) = cs at HR hlen hix
          have HIX := Lib.hid hix
          have HLEN := Lib.hid hlen
          have HB1 := Lib.hid hb1
          clear hix hlen hb1
          have i0 : (0 : Int) ≤ (l : Int) := by omega
          have i1 : (l : Int) < 8 := by omega
          have i2 : (0 : Int) ≤ (r : Int) + 1 := by omega
          have i3 : (r : Int) + 1 < 7 := by omega
          go_wp2_with fail
          refine wp_load_mid 133 _ rfl g (l * 1792 + (r + 1) * 256) rfl cs _ HR.out Try.underlying133 rfl (by rw [HLEN.out]; kernel_rfl) ?_
          go_wp2
          clear HR i2 i3 q0 q1 q2 q3 q4
          go_loopw [5, 28] (fun s z wr => ∃ (u : Nat) (t : Int), s = .int .i64 t ∧ z = .int .i64 (u : Int) ∧ u ≤ 256 ∧ Hid (t = sofar m B l r u) ∧ Hid (Boxed wr w.heap.size 29 m) ∧ Below w.heap.size w wr) (fun _ z _ => 257 - (intOf z).toNat)
          case atStart => exact ⟨0, t1, rfl, rfl, by omega, HS1, hbox1, HB1.out⟩
          case round =>
            clear HS1 hbox1 HB1
            obtain ⟨u, t, rfl, rfl, hu, HS, hbox, hb⟩ := hrel
            obtain ⟨q0, q1, q2, q3, q4⟩ := hbox.out.cells
            by_cases hlt : u < 256
            · obtain ⟨w3, rfl⟩ : ∃ w3 : World, w3 = wr := ⟨_, rfl⟩
              have hix := HIX.out u hlt
              have HB3 := Lib.hid hb
              have ult : (u : Int) < 256 := by omega
              clear hb
              have HX0 := HNB.out (idx l (r + 1) u)
              have HX1 := entry_le (F := B) (M := m.M.toNat) (D := m.D.toNat) (l := l) (r := r + 1) (u := u) HNB.out (by omega) (by omega) (by omega) hlt
              have HX2 : B (idx l (r + 1) u) ≤ 300000 := by have := HSB.out; omega
              have hts := sofar_range (u := u) HNB.out HSB.out (l := l) (r := r) (by omega) (by omega) hu
              rw [← HS.out] at hts
              obtain ⟨ht0, ht1⟩ := hts
              clear HX1
              by_cases hle2 : m.L ≤ (pc u : Int)
              · have HN : Hid (t + B (idx l (r + 1) u) = sofar m B l r (u + 1)) := Lib.hid (by rw [sofar_yes hle2, HS.out])
                clear HS
                generalize B (idx l (r + 1) u) = x at *
                go_wp2
                go_quiet ((go_at_call 146; exact quiet_left (onesCount_any u hlt _)))
                go_wp2
                go_roundw
                case rel => exact ⟨u + 1, t + x, by go_num, by go_num, by omega, HN, Lib.hid (hbox.out.drewN _), below_drewN HB3.out _⟩
                case measure => simp [intOf]; omega
              · have HN : Hid (t = sofar m B l r (u + 1)) := Lib.hid (by rw [sofar_no hle2, HS.out])
                clear HS
                generalize B (idx l (r + 1) u) = x at *
                go_wp2
                go_quiet ((go_at_call 146; exact quiet_left (onesCount_any u hlt _)))
                go_wp2
                go_roundw
                case rel => exact ⟨u + 1, t, by go_num, by go_num, by omega, HN, Lib.hid (hbox.out.drewN _), below_drewN HB3.out _⟩
                case measure => simp [intOf]; omega
            · have hu2 : u = 256 := by omega
              subst hu2
              have HN : Hid (t = sofar m B l (r + 1) 0) := Lib.hid (by rw [sofar_run, HS.out])
              have HBB := Lib.hid hb
              clear hb HS
              go_wp2
              go_roundw
              case rel => exact ⟨r + 1, t, rfl, by go_num, by omega, HN, hbox, HBB.out⟩
              case measure => simp [intOf]; omega
        · have hr2 : r = m.M.toNat := by omega
          have HN : Hid (t1 = sofar m B (l + 1) 0 0) := Lib.hid (by rw [sofar_cut, ← hr2, HS1.out])
          have HBB := Lib.hid hb1
          clear hb1 HS1
          go_wp2
          go_roundw
          case rel => exact ⟨l + 1, t1, rfl, by go_num, by omega, HN, hbox1, HBB.out⟩
          case measure => simp [intOf]; omega
    · have HN : Hid (t0 = totS B (leastW m) m.M.toNat m.D.toNat) := Lib.hid (by rw [HS0.out, ← sofar_end, show l = m.D.toNat by omega])
      clear HS0
      have HBB := Lib.hid hb0
      clear hb0
      go_wp2
      go_ret
      exact ⟨ret_int HN.out, HBB.out⟩

end Go.Proofs.Ytbadahnhlehidaa

namespace Go.Proofs.Ytbadahnhlehidaa
open Go.RowKit

/-- the table behind k rounds -/
def Rounds (m : Mk) (k : Nat) (F : Nat → Int) : Prop :=
  NonNeg F ∧ totS F one3 m.M.toNat m.D.toNat ≤ (8 ^ (k + 1) : Nat) ∧ ∀ W, totS F W m.M.toNat m.D.toNat = sumN m.D.toNat (fun c => nW m k W c 1 (1 <<< c))
theorem sumN_ones : ∀ n : Nat, sumN n (fun c => one3 c 1 (1 <<< c)) = n
  | 0 => rfl
  | n + 1 => by
    show sumN n _ + one3 n 1 _ = _
    rw [sumN_ones n]
    show (n : Int) + 1 = ((n + 1 : Nat) : Int)
    omega
theorem rounds_zero {m : Mk} {F : Nat → Int} (hD : m.D ≤ 8) (h : NonNeg F) (hs : ∀ W, totS F W m.M.toNat m.D.toNat = sumN m.D.toNat (fun c => W c 1 (1 <<< c))) : Rounds m 0 F := by
  refine ⟨h, ?_, hs⟩
  rw [hs one3, sumN_ones]
  show (m.D.toNat : Int) ≤ 8
  omega
theorem rounds_next {m : Mk} {k : Nat} {F F' : Nat → Int} (hD : m.D ≤ 8) (h : Rounds m k F) (h' : NonNeg F') (hs : ∀ W, totS F' W m.M.toNat m.D.toNat = totS F (nextW m W) m.M.toNat m.D.toNat) : Rounds m (k + 1) F' := by
  refine ⟨h', ?_, fun W => ?_⟩
  · rw [hs one3]
    have h1 := tot_next (m := m) h.1 hD
    have h2 := h.2.1
    have h3 : (8 ^ (k + 1 + 1) : Nat) = 8 ^ (k + 1) * 8 := Nat.pow_succ ..
    rw [h3]
    generalize 8 ^ (k + 1) = z at *
    omega
  · rw [hs W, h.2.2 (nextW m W)]
    rfl
theorem rounds_bound {m : Mk} {k : Nat} {F : Nat → Int} (h : Rounds m k F) (hk : k ≤ 5) : totS F one3 m.M.toNat m.D.toNat ≤ 300000 := by
  have := h.2.1
  have h2 := pow8 (k := k + 1) (by omega)
  generalize 8 ^ (k + 1) = z at *
  omega
theorem rounds_bound4 {m : Mk} {k : Nat} {F : Nat → Int} (h : Rounds m k F) (hk : k ≤ 4) : totS F one3 m.M.toNat m.D.toNat ≤ 100000 := by
  have := h.2.1
  have h2 : 8 ^ (k + 1) ≤ 32768 := by
    have := Nat.pow_le_pow_right (n := 8) (by decide) (show k + 1 ≤ 5 by omega)
    simpa using this
  generalize 8 ^ (k + 1) = z at *
  omega
theorem rounds_end {m : Mk} (hm : m.ok = true) {k : Nat} {F : Nat → Int} (h : Rounds m k F) (hk : k = m.C.toNat - 1) : totS F (leastW m) m.M.toNat m.D.toNat = cntV m := by
  rw [(cnt_yes hm).1, count_all hm, h.2.2 (leastW m), hk]

set_option maxRecDepth 100000 in
set_option maxHeartbeats 8000000 in
theorem countKeys_any (m : Mk) (w : World) :
    Calls Try.prog 80 #[.agg #[.int .i64 m.C, .int .i64 m.D, .int .i64 m.S, .int .i64 m.M, .int .i64 m.L]] w fun e w' => e = .returned (.tuple #[.int .i64 (cntV m), .int .i64 (cntE m)]) ∧ Below w.heap.size w w' := by
  have b0 := (Below.refl w.heap.size w).alloc (Nat.le_refl _) (.cells #[.int .i64 m.C, .int .i64 m.D, .int .i64 m.S, .int .i64 m.M, .int .i64 m.L] 29)
  have hx := Boxed.new w 29 m
  rcases hm : m.ok with _ | _
  · obtain ⟨e1, e2⟩ := cnt_bad hm
    rw [e1, e2]; clear e1 e2
    go_enter Try.func80, Try.ntmps80
    go_wp2_with fail
    refine (isMaker_any m _).mono ?_
    rw [hm]
    rintro e w1 ⟨rfl, b1⟩
    have c1 := below_trans' b0 b1
    go_wp2
    go_ret2
    exact ⟨rfl, c1⟩
  rw [(cnt_yes hm).2]
  have HM := Lib.hid hm
  obtain ⟨m1, m2, m3, m4, m5, m6, m7, m8, m9, m10, m11⟩ := Mk.ok_true hm
  clear hm
  go_enter Try.func80, Try.ntmps80
  go_wp2_with fail
  refine (isMaker_any m _).mono ?_
  rw [HM.out]
  rintro e w1 ⟨rfl, b1⟩
  have x1 := hx.on b1
  have c1 := below_trans' b0 b1
  obtain ⟨q0, q1, q2, q3, q4⟩ := x1.cells
  clear hx b0 b1
  go_wp2_with fail
  refine (countSingle_any m _ HM.out).mono ?_
  rintro e w2 ⟨g, F, rfl, hg, htab, hnn, hsum, b2⟩
  have HX2 := Lib.hid (x1.on b2)
  have C2 := Lib.hid (below_trans' c1 b2)
  have hwg := c1.size
  have HR2 := Lib.hid (rounds_zero m4 hnn hsum)
  have HT2 := Lib.hid htab
  clear q0 q1 q2 q3 q4 x1 c1 b2 htab hnn hsum
  obtain ⟨q0, q1, q2, q3, q4⟩ := HX2.out.cells
  go_wp2
  clear q0 q1 q2 q3 q4
  go_loopw [4, 13] (fun p z wr => ∃ (k g : Nat) (F : Nat → Int), p = .pointer (some ⟨g, 0, none⟩) ∧ z = .int .i64 (k : Int) ∧ (k : Int) ≤ m.C - 1 ∧ Hid (Table wr g F) ∧ Hid (Rounds m k F) ∧ Hid (Boxed wr w.heap.size 29 m) ∧ Below w.heap.size w wr) (fun _ z _ => 9 - (intOf z).toNat)
  case atStart => exact ⟨0, g, F, rfl, rfl, by omega, HT2, HR2, HX2, C2.out⟩
  case round =>
    clear HT2 HR2 HX2 C2
    obtain ⟨k, g1, F1, rfl, rfl, hk, HT, HR, HX, hb⟩ := hrel
    obtain ⟨q0, q1, q2, q3, q4⟩ := HX.out.cells
    have HB := Lib.hid hb
    have hwb := hb.size
    clear hb
    by_cases hlt : (k : Int) < m.C - 1
    · go_wp2_with fail
      clear q0 q1 q2 q3 q4
      refine (countLonger_any m HM.out g1 F1 _ HT.out HR.out.1 (rounds_bound4 HR.out (by omega))).mono ?_
      rintro e w3 ⟨g2, F2, rfl, hg2, htab, hnn, hsum, b3⟩
      have HT3 := Lib.hid htab
      have HR3 := Lib.hid (rounds_next m4 HR.out hnn hsum)
      have HX3 := Lib.hid (HX.out.on b3)
      have HB3 := Lib.hid (below_trans' HB.out b3)
      clear HT HR HX HB b3 htab hnn hsum
      go_wp2
      go_roundw
      case rel => exact ⟨k + 1, g2, F2, rfl, by go_num, by omega, HT3, HR3, HX3, HB3.out⟩
      case measure => simp [intOf]; omega
    · have HE := Lib.hid (rounds_end HM.out HR.out (by omega))
      go_wp2_with fail
      clear q0 q1 q2 q3 q4
      refine (countWithLeast_any m HM.out g1 F1 _ HT.out HR.out.1 (rounds_bound HR.out (by omega))).mono ?_
      rw [HE.out]
      rintro e w3 ⟨rfl, b3⟩
      have HB3 := Lib.hid (below_trans' HB.out b3)
      clear HT HR HX HB b3 HE
      go_wp2
      go_ret2
      exact ⟨rfl, HB3.out⟩

end Go.Proofs.Ytbadahnhlehidaa
