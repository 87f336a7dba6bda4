/- Plain mathematics of chapter 1: products that are cut at the limit, powers, results with their codes. No program text. Contracts of the number functions of chapter 1, of the program and of the model. Words for lists of integers in memory, and the contracts of the small functions on them: nothing here depends on what chapter 1 computes. Contracts of the functions of chapter 1 that look at lists: ranges, sums, products, rising lists; of the program and of the model. Lists of integers that a call has made: words, and the contracts of the marking functions. -/
import Derived.WalkKit
import Derived.Test.YtidjnnooeepklaaRows
import Derived.WalkSpells
import Derived.Lib.Hide
import Derived.WalkLawsBesides
import Derived.Below
import Derived.Laws.OwnMore
import Derived.Deep.OwnRows
import Derived.Deep.Draws
import Derived.Deep.QuietTactic
import Derived.BigQuiet
namespace Go.Proofs.Ytidjnnooeepklaa

def capM (a b : Int) : Int := if 1000000000000 < a * b then 1000000000001 else a * b
def isNumB (n : Int) : Bool := decide (0 ≤ n) && decide (n ≤ 1000000000000)
def inB (n a b : Int) : Bool := decide (a ≤ n) && decide (n ≤ b)
def resV (n : Int) : Int := if 1000000000000 < n then 0 else n
def resC (n : Int) : Int := if 1000000000000 < n then 3 else 0
def powC (b : Int) : Nat → Int
  | 0 => 1
  | n + 1 => capM (powC b n) b

theorem inB_true {n a b : Int} : inB n a b = true ↔ a ≤ n ∧ n ≤ b := by simp [inB]
theorem inB_false {n a b : Int} : inB n a b = false ↔ n < a ∨ b < n := by
  rw [← Bool.not_eq_true, inB_true]; omega
theorem capM_range {a b : Int} (ha : 0 ≤ a) (hb : 0 ≤ b) : 0 ≤ capM a b ∧ capM a b ≤ 1000000000001 := by
  unfold capM
  have := Int.mul_nonneg ha hb
  split <;> omega
theorem capM_over {a b : Int} (ha : 0 < a) (h : 1000000000000 / a < b) : capM a b = 1000000000001 := by
  unfold capM
  rw [if_pos]
  have := Int.lt_mul_of_ediv_lt ha h
  rw [Int.mul_comm]; exact this
theorem capM_under {a b : Int} (ha : 0 < a) (h : ¬ 1000000000000 / a < b) : capM a b = a * b ∧ a * b ≤ 1000000000000 := by
  have h1 : a * b ≤ 1000000000000 := by
    rw [Int.mul_comm]; exact Int.mul_le_of_le_ediv ha (by omega)
  unfold capM
  rw [if_neg (by omega)]
  exact ⟨rfl, h1⟩
theorem capM_comm (a b : Int) : capM a b = capM b a := by unfold capM; rw [Int.mul_comm]
theorem powC_range {b : Int} (hb : 0 ≤ b) (n : Nat) : 0 ≤ powC b n ∧ powC b n ≤ 1000000000001 := by
  induction n with
  | zero => simp [powC]
  | succ n ih => exact capM_range ih.1 hb

end Go.Proofs.Ytidjnnooeepklaa

namespace Go.Proofs.Ytidjnnooeepklaa
open Go.RowKit

theorem ret_int {k : IntKind} {a b : Int} (h : a = b) : Ending.returned (.int k a) = .returned (.int k b) := by rw [h]
theorem ret_bool {a b : Bool} (h : a = b) : Ending.returned (.bool a) = .returned (.bool b) := by rw [h]
theorem ret_int2 {a b c d : Int} (h : a = c) (h2 : b = d) : Ending.returned (.tuple #[.int .i64 a, .int .i64 b]) = .returned (.tuple #[.int .i64 c, .int .i64 d]) := by rw [h, h2]

theorem isWithin_any (n a b : Int) (w : World) :
    Calls Try.prog 87 #[.int .i64 n, .int .i64 a, .int .i64 b] w fun e w' => e = .returned (.bool (inB n a b)) ∧ w = w' := by
  by_cases h1 : a ≤ n
  · by_cases h2 : n ≤ b
    all_goals
      go_enter Try.func87, Try.ntmps87
      go_wp2
      go_ret
      refine ⟨ret_bool ?_, rfl⟩
      simp [inB, h1, h2]
  · go_enter Try.func87, Try.ntmps87
    go_wp2
    go_ret
    refine ⟨ret_bool ?_, rfl⟩
    simp [inB]; omega

theorem l01In_any (n a b : Int) (w : World) :
    Calls Try.prog 95 #[.int .i64 n, .int .i64 a, .int .i64 b] w fun e w' => e = .returned (.bool (inB n a b)) ∧ w = w' := by
  by_cases h1 : a ≤ n
  · by_cases h2 : n ≤ b
    all_goals
      go_enter Try.func95, Try.ntmps95
      go_wp2
      go_ret
      refine ⟨ret_bool ?_, rfl⟩
      simp [inB, h1, h2]
  · go_enter Try.func95, Try.ntmps95
    go_wp2
    go_ret
    refine ⟨ret_bool ?_, rfl⟩
    simp [inB]; omega

end Go.Proofs.Ytidjnnooeepklaa

namespace Go.Proofs.Ytidjnnooeepklaa
open Go.RowKit

theorem block_of_add (a : Addr) (n : Nat) : (a.add n).block = a.block := by unfold Addr.add; split <;> rfl

/-- The slice value '.slice A n c' reads as the list xs of integers, below block B. -/
def Ints (w : World) (B : Nat) (A : Option Addr) (n : Nat) (xs : List Int) : Prop :=
  xs.length = n ∧ (0 < n → ∃ ad, A = some ad ∧ ad.block < B ∧ ∀ (j : Nat) (v : Int), xs[j]? = some v → w.cell? (ad.add j) = some (.int .i64 v))

theorem Ints.len {w : World} {B n : Nat} {A : Option Addr} {xs : List Int} (h : Ints w B A n xs) : xs.length = n := h.1
theorem Ints.at_ {w : World} {B n : Nat} {A : Option Addr} {xs : List Int} {k : Nat} (h : Ints w B A n xs) (hk : k < n) :
    ∃ ad v, A = some ad ∧ ad.block < B ∧ xs[k]? = some v ∧ w.cell? (ad.add k) = some (.int .i64 v) := by
  obtain ⟨ad, e, hb, hc⟩ := h.2 (by omega)
  have hl : k < xs.length := by have := h.1; omega
  exact ⟨ad, xs[k], e, hb, List.getElem?_eq_getElem hl, hc k _ (List.getElem?_eq_getElem hl)⟩
theorem Ints.keep {w w' : World} {B n : Nat} {A : Option Addr} {xs : List Int} (h : Ints w B A n xs) (hk : ∀ p : Addr, p.block < B → w'.cell? p = w.cell? p) : Ints w' B A n xs :=
  ⟨h.1, fun hn => by
    obtain ⟨ad, e, hb, hc⟩ := h.2 hn
    exact ⟨ad, e, hb, fun j u hu => (hk _ (by rw [block_of_add]; exact hb)).trans (hc j u hu)⟩⟩
theorem Ints.more {w : World} {B B' n : Nat} {A : Option Addr} {xs : List Int} (h : Ints w B A n xs) (hB : B ≤ B') : Ints w B' A n xs :=
  ⟨h.1, fun hn => by
    obtain ⟨ad, e, hb, hc⟩ := h.2 hn
    exact ⟨ad, e, by omega, hc⟩⟩
theorem Ints.below {w w' : World} {B n : Nat} {A : Option Addr} {xs : List Int} (h : Ints w B A n xs) (hb : Below B w w') : Ints w' B A n xs := h.keep fun _ hp => hb.cell hp
/-- over the worlds' own sizes: kept and widened -/
theorem Ints.on {w w' : World} {n : Nat} {A : Option Addr} {xs : List Int} (h : Ints w w.heap.size A n xs) (hb : Below w.heap.size w w') : Ints w' w'.heap.size A n xs :=
  (h.below hb).more hb.size
theorem Ints.of_row {w : World} {g n : Nat} {t : TypeId} {xs : List Int} (h : w.rowIs g t n (fun j => .int .i64 (xs.getD j 0))) (hl : xs.length = n) : Ints w w.heap.size (some ⟨g, 0, none⟩) n xs := by
  refine ⟨hl, fun _ => ⟨_, rfl, h.lt, fun j v hv => ?_⟩⟩
  have hj : j < n := by
    rcases Nat.lt_or_ge j n with hlt | hge
    · exact hlt
    · rw [List.getElem?_eq_none (by omega)] at hv; cases hv
  have := h.cell hj
  simp only [List.getD_eq_getElem?_getD, hv, Option.getD_some] at this
  unfold Addr.add
  split
  · next h0 => subst h0; simpa using this
  · simpa using this

/-- a slice of integers as the shell of a row hands it over -/
theorem ints_of {w : World} {a : Option Addr} {len cap : Nat} {zs : List Int}
    (h : (a = none ∧ len = 0 ∧ cap = 0 ∧ zs = []) ∨ ∃ x, a = some x ∧ len ≤ cap ∧ cap ≤ maxLen ∧ zs.length = cap ∧ (∀ i, i < zs.length → w.cell? (x.add i) = some (.int .i64 (zs.getD i 0))) ∧ ∀ n ∈ zs, (Lit.int .i64 n).wf = true) :
    Ints w w.heap.size a len (zs.take len) := by
  rcases h with ⟨rfl, rfl, rfl, rfl⟩ | ⟨x, rfl, hl, _, hz, hc, _⟩
  · exact ⟨rfl, fun h => absurd h (by omega)⟩
  · have hcell : ∀ (j : Nat) (v : Int), (zs.take len)[j]? = some v → w.cell? (x.add j) = some (.int .i64 v) := by
      intro j v hv
      obtain ⟨hj, hv'⟩ := List.getElem?_eq_some_iff.1 hv
      rw [List.length_take] at hj
      have e := hc j (by omega)
      rw [List.getElem_take] at hv'
      rw [e, List.getD_eq_getElem?_getD, List.getElem?_eq_getElem (by omega), hv']
      rfl
    refine ⟨by rw [List.length_take]; omega, fun hn => ⟨x, rfl, ?_, hcell⟩⟩
    have h0 : (zs.take len)[0]? = some ((zs.take len)[0]'(by rw [List.length_take]; omega)) := List.getElem?_eq_getElem _
    have := World.block_lt_of_cell? _ _ (hcell 0 _ h0)
    rwa [block_of_add] at this

theorem below_trans' {a b c : World} (h : Below a.heap.size a b) (k : Below b.heap.size b c) : Below a.heap.size a c := h.trans (k.mono h.size)
theorem below_drewN {B : Nat} {a w : World} (h : Below B a w) (n : Nat) : Below B a (w.drewN n) := ⟨h.os, h.tape, h.output, h.size, h.block⟩

theorem quiet_left {P : Program} {f : FuncId} {args : Array Value} {w : World} {n : Nat} {v : Value}
    (h : Calls P f args (w.drewN n) fun e w' => e = .returned v ∧ w.drewN n = w') : Calls P f args (w.drewN n) fun e w' => e = .returned v ∧ ∃ m, w' = w.drewN m :=
  h.mono fun _ _ ⟨he, hm⟩ => ⟨he, n, hm.symm⟩

theorem quiet_add_left {P : Program} {f : FuncId} {args : Array Value} {w : World} {a n : Nat} {v : Value}
    (h : Calls P f args (w.drewN (a + n)) fun e w' => e = .returned v ∧ w.drewN (a + n) = w') :
    Calls P f args (w.drewN (a + n)) fun e w'' => e = .returned v ∧ ∃ m, w'' = w.drewN (a + m) :=
  h.mono fun _ _ ⟨he, hm⟩ => ⟨he, n, hm.symm⟩

theorem take_all {p : Int → Bool} {xs : List Int} {k : Nat} {v : Int} (hv : xs[k]? = some v) : (xs.take (k + 1)).all p = ((xs.take k).all p && p v) := by
  obtain ⟨hk, rfl⟩ := List.getElem?_eq_some_iff.1 hv
  rw [List.take_succ_eq_append_getElem hk, List.all_append]
  simp only [List.all_cons, List.all_nil, Bool.and_true]
theorem not_all {p : Int → Bool} {xs : List Int} {k : Nat} {v : Int} (hv : xs[k]? = some v) (h : p v = false) : xs.all p = false := by
  rw [List.all_eq_false]
  exact ⟨v, List.mem_of_getElem? hv, by simp [h]⟩
theorem take_end {xs : List Int} {n k : Nat} (hl : xs.length = n) (h : ¬ k < n) : xs.take k = xs := List.take_of_length_le (by omega)

/-- the copy that 'toInt64S' makes after k rounds -/
def copied (xs : List Int) (k : Nat) (j : Nat) : Value := .int .i64 (if j < k then xs.getD j 0 else 0)
theorem copied_set {xs : List Int} {k : Nat} {v : Int} (hv : xs[k]? = some v) (j : Nat) : (if j = k then Value.int .i64 v else copied xs k j) = copied xs (k + 1) j := by
  unfold copied
  by_cases h : j = k
  · subst h
    rw [if_pos rfl, if_pos (by omega), List.getD_eq_getElem?_getD, hv]; rfl
  · rw [if_neg h]
    by_cases h2 : j < k
    · rw [if_pos h2, if_pos (by omega)]
    · rw [if_neg h2, if_neg (by omega)]

theorem Try.info2' : (Try.prog.info? 2).map (fun i => (i.zero, i.size, i.bytes)) = some (some (.int .i64 0), 1, 8) := by kernel_rfl

theorem toInt64S_any (A : Option Addr) (n c : Nat) (xs : List Int) (w : World) (h : Ints w w.heap.size A n xs) (hn : n ≤ 1048576) :
    Calls Try.prog 50 #[.slice A n c] w fun e w' => ∃ g, e = .returned (.slice (some ⟨g, 0, none⟩) n n) ∧ w.heap.size ≤ g ∧ w'.rowIs g 2 n (fun j => .int .i64 (xs.getD j 0)) ∧ Below w.heap.size w w' := by
  have hl := h.len
  have HL := Lib.hid hl
  clear hl
  have hmk := run_make_row' (P := Try.prog) 27 2 (.int .i64 0) 8 Try.underlying27 Try.info2' rfl .i64 .i64 n (by omega) (by omega)
  go_enter Try.func50, Try.ntmps50
  go_wp2
  clear hmk
  go_loopw [4] (fun i wr => ∃ k : Nat, k ≤ n ∧ i = .int .i64 k ∧ wr.rowIs w.heap.size 2 n (copied xs k) ∧ Below w.heap.size w wr) (fun i _ => n - (intOf i).toNat)
  case atStart =>
    refine ⟨0, Nat.zero_le _, rfl, (World.rowIs_made w (.int .i64 0) n 2).congr (fun i _ => by simp [copied]), (Below.refl _ _).alloc (Nat.le_refl _) _⟩
  case round =>
    obtain ⟨k, hk, rfl, hrow, hb⟩ := hrel
    by_cases hlt : k < n
    · obtain ⟨ad, v, rfl, hab, hv, hc⟩ := (h.below hb).at_ hlt
      have hst := hrow.cell hlt
      have hfz := hrow.frozen k
      have HV := Lib.hid hv
      clear hv
      have HR := Lib.hid hrow
      clear hrow
      go_wp2
      go_roundw
      case rel => exact ⟨k + 1, by omega, by go_num, (HR.out.set k (.int .i64 v)).congr (fun j _ => copied_set HV.out j), hb.setCell (by simp) _⟩
      case measure => simp [intOf]; omega
    · go_wp2
      go_ret
      refine ⟨w.heap.size, rfl, Nat.le_refl _, hrow.congr (fun j hj => ?_), hb⟩
      unfold copied
      rw [if_pos (by omega)]

theorem eqInts_true (A A' : Option Addr) (n c c' : Nat) (xs : List Int) (w : World) (h : Ints w w.heap.size A n xs) (h' : Ints w w.heap.size A' n xs) (hn : n ≤ 1048576) :
    Calls Try.prog 43 #[.slice A n c, .slice A' n c'] w fun e w' => e = .returned (.bool true) ∧ Below w.heap.size w w' := by
  go_enter Try.func43, Try.ntmps43
  go_wp2
  go_loopw [5] (fun i wr => ∃ k : Nat, k ≤ n ∧ i = .int .i64 k ∧ Below w.heap.size w wr) (fun i _ => n - (intOf i).toNat)
  case atStart => exact ⟨0, Nat.zero_le _, rfl, Below.refl _ _⟩
  case round =>
    obtain ⟨k, hk, rfl, hb⟩ := hrel
    by_cases hlt : k < n
    · obtain ⟨ad, v, rfl, hab, hv, hc⟩ := (h.below hb).at_ hlt
      obtain ⟨ad', v', rfl, hab', hv', hc'⟩ := (h'.below hb).at_ hlt
      obtain rfl : v = v' := by rw [hv] at hv'; injection hv'
      clear hv hv'
      go_wp2
      go_quiet (fail)
      go_wp2
      go_roundw
      case rel => exact ⟨k + 1, by omega, by go_num, below_drewN hb _⟩
      case measure => simp [intOf]; omega
    · go_wp2
      go_ret
      exact ⟨rfl, hb⟩

theorem eqInts_len (A A' : Option Addr) (n n' c c' : Nat) (w : World) (hne : n ≠ n') :
    Calls Try.prog 43 #[.slice A n c, .slice A' n' c'] w fun e w' => e = .returned (.bool false) ∧ Below w.heap.size w w' := by
  go_enter Try.func43, Try.ntmps43
  go_wp2
  go_ret
  exact ⟨rfl, Below.refl _ _⟩

end Go.Proofs.Ytidjnnooeepklaa

namespace Go.Proofs.Ytidjnnooeepklaa
open Go.RowKit

def allIn (lo hi : Int) (xs : List Int) : Bool := xs.all (fun v => inB v lo hi)
def withB (lo hi : Int) (xs : List Int) : Bool := decide (xs.length ≤ 100) && allIn lo hi xs
theorem allIn_no {lo hi v : Int} {xs : List Int} {k : Nat} (hv : xs[k]? = some v) (h : inB v lo hi = false) : allIn lo hi xs = false := not_all (p := fun v => inB v lo hi) hv h
theorem allIn_step {lo hi v : Int} {xs : List Int} {k : Nat} (hv : xs[k]? = some v) (hk : allIn lo hi (xs.take k) = true) (h : inB v lo hi = true) : allIn lo hi (xs.take (k + 1)) = true := by
  unfold allIn at *
  rw [take_all (p := fun v => inB v lo hi) hv, hk, h]; rfl
theorem withB_long {lo hi : Int} {xs : List Int} {n : Nat} (hl : xs.length = n) (h : 100 < n) : withB lo hi xs = false := by
  unfold withB
  rw [hl, decide_eq_false (by omega)]; rfl
theorem withB_short {lo hi : Int} {xs : List Int} {n : Nat} (hl : xs.length = n) (h : n ≤ 100) : withB lo hi xs = allIn lo hi xs := by
  unfold withB
  rw [hl, decide_eq_true h]; rfl
theorem withB_no {lo hi : Int} {xs : List Int} (h : allIn lo hi xs = false) : withB lo hi xs = false := by unfold withB; rw [h, Bool.and_false]

theorem allIn_at {lo hi v : Int} {xs : List Int} {k : Nat} (h : allIn lo hi xs = true) (hv : xs[k]? = some v) : lo ≤ v ∧ v ≤ hi := by
  have := List.all_eq_true.1 h v (List.mem_of_getElem? hv)
  exact inB_true.1 this
theorem withB_true {lo hi : Int} {xs : List Int} (h : withB lo hi xs = true) : xs.length ≤ 100 ∧ allIn lo hi xs = true := by
  unfold withB at h
  simpa using h

theorem areWithin_any (A : Option Addr) (n c : Nat) (xs : List Int) (lo hi : Int) (w : World) (h : Ints w w.heap.size A n xs) (hn : n ≤ 1048576) :
    Calls Try.prog 88 #[.slice A n c, .int .i64 lo, .int .i64 hi] w fun e w' => e = .returned (.bool (withB lo hi xs)) ∧ w = w' := by
  have HL := Lib.hid h.len
  by_cases hs : n ≤ 100
  · rw [withB_short HL.out hs]
    go_enter Try.func88, Try.ntmps88
    go_wp2
    go_loop [14] (fun i => ∃ k : Nat, k ≤ n ∧ i = .int .i64 k ∧ Hid (allIn lo hi (xs.take k) = true)) (fun i => n - (intOf i).toNat)
    case atStart => exact ⟨0, Nat.zero_le _, rfl, Lib.hid rfl⟩
    case round =>
      obtain ⟨k, hk, rfl, hall⟩ := hrel
      by_cases hlt : k < n
      · obtain ⟨ad, v, rfl, hab, hv, hc⟩ := h.at_ hlt
        have HV := Lib.hid hv
        clear hv
        rcases hq : inB v lo hi with _ | _
        · go_wp2_with (go_at_call 87; refine (isWithin_any _ _ _ _).mono ?_; rintro e w' ⟨rfl, rfl⟩)
          go_ret
          exact ⟨ret_bool (allIn_no HV.out hq).symm, rfl⟩
        · go_wp2_with (go_at_call 87; refine (isWithin_any _ _ _ _).mono ?_; rintro e w' ⟨rfl, rfl⟩)
          go_round
          case rel => exact ⟨k + 1, by omega, by go_num, Lib.hid (allIn_step HV.out hall.out hq)⟩
          case measure => simp [intOf]; omega
      · have HA : Hid (allIn lo hi xs = true) := by rw [← take_end HL.out hlt]; exact hall
        clear hall
        go_wp2
        go_ret
        exact ⟨ret_bool HA.out.symm, rfl⟩
  · rw [withB_long HL.out (by omega)]
    go_enter Try.func88, Try.ntmps88
    go_wp2
    go_ret
    exact ⟨rfl, rfl⟩

end Go.Proofs.Ytidjnnooeepklaa

namespace Go.Proofs.Ytidjnnooeepklaa
open Go.RowKit

/-- The slice value '.slice A n c' reads as xs; its block lies from lo on, below hi, and its cells can be written. -/
def Own (w : World) (lo hi : Nat) (A : Option Addr) (n : Nat) (xs : List Int) : Prop :=
  xs.length = n ∧ hi ≤ w.heap.size ∧ (0 < n → ∃ ad, A = some ad ∧ lo ≤ ad.block ∧ ad.block < hi ∧ ∀ (j : Nat) (v : Int), xs[j]? = some v → w.frozen? (ad.add j) = false ∧ w.cell? (ad.add j) = some (.int .i64 v))

theorem Own.len {w : World} {lo hi n : Nat} {A : Option Addr} {xs : List Int} (h : Own w lo hi A n xs) : xs.length = n := h.1
theorem Own.size {w : World} {lo hi n : Nat} {A : Option Addr} {xs : List Int} (h : Own w lo hi A n xs) : hi ≤ w.heap.size := h.2.1
theorem Own.ints {w : World} {lo hi n : Nat} {A : Option Addr} {xs : List Int} (h : Own w lo hi A n xs) : Ints w w.heap.size A n xs :=
  ⟨h.1, fun hn => by
    obtain ⟨ad, e, _, hb, hc⟩ := h.2.2 hn
    exact ⟨ad, e, by have := h.2.1; omega, fun j v hv => (hc j v hv).2⟩⟩
theorem Own.at_ {w : World} {lo hi n : Nat} {A : Option Addr} {xs : List Int} {k : Nat} (h : Own w lo hi A n xs) (hk : k < n) :
    ∃ ad v, A = some ad ∧ lo ≤ ad.block ∧ ad.block < hi ∧ xs[k]? = some v ∧ w.frozen? (ad.add k) = false ∧ w.cell? (ad.add k) = some (.int .i64 v) := by
  obtain ⟨ad, e, h1, h2, hc⟩ := h.2.2 (by omega)
  have hl : k < xs.length := by have := h.1; omega
  have hx : xs[k]? = some xs[k] := List.getElem?_eq_getElem hl
  exact ⟨ad, xs[k], e, h1, h2, hx, (hc k _ hx).1, (hc k _ hx).2⟩
theorem Own.nil {w : World} {lo hi : Nat} (A : Option Addr) (h : hi ≤ w.heap.size) : Own w lo hi A 0 [] := ⟨rfl, h, fun h => absurd h (by omega)⟩
theorem Own.below {w w' : World} {lo hi n : Nat} {A : Option Addr} {xs : List Int} (h : Own w lo hi A n xs) (hb : Below w.heap.size w w') : Own w' lo hi A n xs :=
  ⟨h.1, Nat.le_trans h.2.1 hb.size, fun hn => by
    obtain ⟨ad, e, h1, h2, hc⟩ := h.2.2 hn
    refine ⟨ad, e, h1, h2, fun j v hv => ?_⟩
    have hlt : (ad.add j).block < w.heap.size := by rw [block_of_add]; have := h.2.1; omega
    rw [hb.frozen hlt, hb.cell hlt]
    exact hc j v hv⟩
theorem Own.apart {w w' : World} {lo hi n : Nat} {A : Option Addr} {xs : List Int} {row : Option Nat} (h : Own w lo hi A n xs) (hg : w.grownBy w' row) (hr : ∀ g, row = some g → g < lo ∨ hi ≤ g) : Own w' lo hi A n xs :=
  ⟨h.1, Nat.le_trans h.2.1 hg.size, fun hn => by
    obtain ⟨ad, e, h1, h2, hc⟩ := h.2.2 hn
    refine ⟨ad, e, h1, h2, fun j v hv => ?_⟩
    have hlt : (ad.add j).block < w.heap.size := by rw [block_of_add]; have := h.2.1; omega
    have hb := hg.block (ad.add j).block hlt (fun e => by rw [block_of_add] at e; have := hr _ e.symm; omega)
    rw [World.frozen?_of_block (w := w) hb, World.cell?_of_block (w := w) hb]
    exact hc j v hv⟩
theorem Own.more {w : World} {lo hi lo' hi' n : Nat} {A : Option Addr} {xs : List Int} (h : Own w lo hi A n xs) (h1 : lo' ≤ lo) (h2 : hi ≤ hi') (h3 : hi' ≤ w.heap.size) : Own w lo' hi' A n xs :=
  ⟨h.1, h3, fun hn => by
    obtain ⟨ad, e, a1, a2, hc⟩ := h.2.2 hn
    exact ⟨ad, e, by omega, by omega, hc⟩⟩
theorem Own.of_row {w : World} {g n lo : Nat} {t : TypeId} {xs : List Int} (h : w.rowIs g t n (fun j => .int .i64 (xs.getD j 0))) (hl : xs.length = n) (hg : lo ≤ g) : Own w lo w.heap.size (some ⟨g, 0, none⟩) n xs := by
  refine ⟨hl, Nat.le_refl _, fun _ => ⟨_, rfl, hg, h.lt, fun j v hv => ?_⟩⟩
  have hj : j < n := by
    rcases Nat.lt_or_ge j n with hlt | hge
    · exact hlt
    · rw [List.getElem?_eq_none (by omega)] at hv; cases hv
  have e : (⟨g, 0, none⟩ : Addr).add j = ⟨g, j, none⟩ := by
    unfold Addr.add
    split
    · next h0 => subst h0; rfl
    · simp
  rw [e]
  have := h.cell hj
  simp only [List.getD_eq_getElem?_getD, hv, Option.getD_some] at this
  exact ⟨h.frozen j, this⟩
theorem below_grown {W w w' : World} {row : Option Nat} (h : Below W.heap.size W w) (hg : w.grownBy w' row) (hr : ∀ g, row = some g → W.heap.size ≤ g) : Below W.heap.size W w' :=
  h.grown hg h.size hr

theorem add_ne (a : Addr) {i j : Nat} (h : i ≠ j) : a.add i ≠ a.add j := by
  intro e
  have h2 := congrArg Addr.off e
  unfold Addr.add at h2
  by_cases hi : i = 0 <;> by_cases hj : j = 0 <;> simp [hi, hj] at h2 <;> omega

def marks (k : Int) (n : Nat) : List Int := (List.range n).map (fun (j : Nat) => k + (j : Int))
theorem marks_len (k : Int) (n : Nat) : (marks k n).length = n := by simp [marks]
theorem marks_at {k v : Int} {n j : Nat} (h : (marks k n)[j]? = some v) : v = k + j := by
  unfold marks at h
  rw [List.getElem?_map] at h
  rcases hj : (List.range n)[j]? with _ | u
  · rw [hj] at h; cases h
  · rw [hj] at h
    obtain ⟨hl, e⟩ := List.getElem?_eq_some_iff.1 hj
    rw [List.getElem_range] at e
    subst e
    simp at h; omega
/-- the list after the first j marks -/
def marked (xs : List Int) (k : Int) (j : Nat) : List Int := marks k j ++ xs.drop j
theorem marked_len {xs : List Int} {n : Nat} (k : Int) {j : Nat} (h : xs.length = n) (hj : j ≤ n) : (marked xs k j).length = n := by
  unfold marked; rw [List.length_append, marks_len, List.length_drop]; omega
theorem marked_end {xs : List Int} {n j : Nat} {k : Int} (h : xs.length = n) (hj : ¬ j < n) (hj' : j ≤ n) : marked xs k j = marks k n := by
  obtain rfl : j = n := by omega
  unfold marked; rw [List.drop_of_length_le (by omega), List.append_nil]
theorem marked_set {xs : List Int} {j : Nat} (k : Int) (hj : j < xs.length) (i : Nat) (v : Int) (h : (marked xs k (j + 1))[i]? = some v) : (i = j ∧ v = k + j) ∨ (i ≠ j ∧ (marked xs k j)[i]? = some v) := by
  unfold marked at *
  by_cases h1 : i < j
  · right
    refine ⟨by omega, ?_⟩
    rw [List.getElem?_append_left (by rw [marks_len]; omega)] at h ⊢
    unfold marks at *
    rw [List.getElem?_map, List.getElem?_range (by omega)] at h ⊢
    exact h
  · by_cases h2 : i = j
    · left
      subst h2
      rw [List.getElem?_append_left (by rw [marks_len]; omega)] at h
      exact ⟨rfl, marks_at h⟩
    · right
      refine ⟨h2, ?_⟩
      rw [List.getElem?_append_right (by rw [marks_len]; omega), marks_len, List.getElem?_drop] at h ⊢
      rw [← h]
      congr 1
      omega

theorem Own.mark {w : World} {lo hi n : Nat} {ad : Addr} {xs : List Int} {j : Nat} (k : Int) (h : Own w lo hi (some ad) n (marked xs k j)) (hl : xs.length = n) (hj : j < n) :
    Own (w.setCell (ad.add j) (.int .i64 (k + j))) lo hi (some ad) n (marked xs k (j + 1)) := by
  refine ⟨marked_len k hl (by omega), by simpa [World.setCell] using h.2.1, fun hn => ?_⟩
  obtain ⟨ad', e, h1, h2, hc⟩ := h.2.2 hn
  obtain rfl : ad = ad' := by injection e
  refine ⟨ad, rfl, h1, h2, fun i v hv => ?_⟩
  rcases marked_set k (by omega) i v hv with ⟨rfl, rfl⟩ | ⟨hne, hv'⟩
  · obtain ⟨_, u, e, _, _, _, hf, hcell⟩ := h.at_ hj
    injection e with e
    subst e
    exact ⟨by rw [World.frozen?_setCell]; exact hf, World.cell?_setCell_same _ _ _ hcell⟩
  · rw [World.frozen?_setCell, World.cell?_setCell_other _ _ _ _ (add_ne ad (Ne.symm hne))]
    exact hc i v hv'

theorem grown_set {a w : World} {g : Nat} (h : a.grownBy w (some g)) {p : Addr} (hp : p.block = g) (u : Value) : a.grownBy (w.setCell p u) (some g) :=
  ⟨h.os, h.tape, h.output, by simpa [World.setCell] using h.size, fun i hi hne => (Below.heap_setCell w p u i (by rintro rfl; exact hne (by rw [hp]))).trans (h.block i hi hne)⟩
theorem grown_any {a w : World} {row : Option Nat} (h : a.grownBy w none) : a.grownBy w row :=
  ⟨h.os, h.tape, h.output, h.size, fun i hi _ => h.block i hi (by simp)⟩

theorem markInts_any (A : Option Addr) (n c : Nat) (xs : List Int) (k : Int) (lo hi : Nat) (w : World) (h : Own w lo hi A n xs) (hn : n ≤ 1048576) (k0 : 0 ≤ k) (k1 : k ≤ 1000000000000) :
    Calls Try.prog 45 #[.slice A n c, .int .i64 k] w fun e w' => e = .returned (.int .i64 (k + n)) ∧ Own w' lo hi A n (marks k n) ∧ ∃ row : Option Nat, w.grownBy w' row ∧ (∀ g, row = some g → lo ≤ g ∧ g < hi) := by
  have HL := Lib.hid h.len
  have HO := Lib.hid (show Own w lo hi A n (marked xs k 0) by unfold marked marks; simpa using h)
  have hs := h.size
  go_enter Try.func45, Try.ntmps45
  go_wp2
  go_loopw [1, 5] (fun v i wr => ∃ j : Nat, j ≤ n ∧ i = .int .i64 j ∧ v = .int .i64 (k + j) ∧ Own wr lo hi A n (marked xs k j) ∧ ∃ row : Option Nat, w.grownBy wr row ∧ (∀ g, row = some g → (lo ≤ g ∧ g < hi) ∧ ∃ ad, A = some ad ∧ ad.block = g)) (fun _ i _ => n - (intOf i).toNat)
  case atStart => exact ⟨0, Nat.zero_le _, rfl, by go_num, HO.out, none, World.grownBy.refl _ _, fun g e => by cases e⟩
  case round =>
    obtain ⟨j, hj, rfl, rfl, ho, row, hg, hr⟩ := hrel
    by_cases hlt : j < n
    · obtain ⟨ad, v, rfl, h1, h2, hv, hf, hc⟩ := ho.at_ hlt
      have HM := Lib.hid (Own.mark k ho HL.out hlt)
      have HG : Hid (∃ row : Option Nat, w.grownBy (wr.setCell (ad.add j) (.int .i64 (k + j))) row ∧ (∀ g, row = some g → (lo ≤ g ∧ g < hi) ∧ ∃ a, some ad = some a ∧ a.block = g)) := by
        refine ⟨some ad.block, ?_, fun g e => by cases e; exact ⟨⟨h1, h2⟩, ad, rfl, rfl⟩⟩
        refine grown_set ?_ (block_of_add ad j) _
        rcases row with _ | g
        · exact grown_any hg
        · obtain ⟨_, a, e1, e2⟩ := hr g rfl
          injection e1 with e1
          subst e1; subst e2
          exact hg
      clear hv ho hg hr
      go_wp2
      go_roundw
      case rel => exact ⟨j + 1, by omega, by go_num, by go_num, HM.out, HG.out⟩
      case measure => simp [intOf]; omega
    · have HE := Lib.hid (marked_end (k := k) HL.out hlt hj)
      have hjn : j = n := by omega
      have HJ := Lib.hid hjn
      clear hjn
      go_wp2
      go_ret
      refine ⟨ret_int (by rw [HJ.out]), by rw [← HE.out]; exact ho, row, hg, fun g e => (hr g e).1⟩

theorem heldInts_any (A : Option Addr) (n c : Nat) (k : Int) (w : World) (h : Ints w w.heap.size A n (marks k n)) (hn : n ≤ 1048576) (k0 : 0 ≤ k) (k1 : k ≤ 1000000000000) :
    Calls Try.prog 46 #[.slice A n c, .int .i64 k] w fun e w' => e = .returned (.int .i64 (k + n)) ∧ w = w' := by
  go_enter Try.func46, Try.ntmps46
  go_wp2
  go_loop [1, 5] (fun v i => ∃ j : Nat, j ≤ n ∧ i = .int .i64 j ∧ v = .int .i64 (k + j)) (fun _ i => n - (intOf i).toNat)
  case atStart => exact ⟨0, Nat.zero_le _, rfl, by go_num⟩
  case round =>
    obtain ⟨j, hj, rfl, rfl⟩ := hrel
    by_cases hlt : j < n
    · obtain ⟨ad, v, rfl, hab, hv, hc⟩ := h.at_ hlt
      obtain rfl := marks_at hv
      clear hv
      go_wp2
      go_round
      case rel => exact ⟨j + 1, by omega, by go_num, by go_num⟩
      case measure => simp [intOf]; omega
    · have hjn : j = n := by omega
      have HJ := Lib.hid hjn
      clear hjn
      go_wp2
      go_ret
      exact ⟨ret_int (by rw [HJ.out]), rfl⟩

theorem ret_si {A : Option Addr} {n c : Nat} {a b : Int} (h : a = b) : Ending.returned (.tuple #[.slice A n c, .int .i64 a]) = .returned (.tuple #[.slice A n c, .int .i64 b]) := by rw [h]
/-- what a call answers that gives a list of its own and a code -/
def GivesInts (w : World) (code : Int) (xs : List Int) (e : Ending) (w' : World) : Prop :=
  ∃ A n c, e = .returned (.tuple #[.slice A n c, .int .i64 code]) ∧ Own w' w.heap.size w'.heap.size A n xs ∧ n ≤ 1048576 ∧ Below w.heap.size w w'

end Go.Proofs.Ytidjnnooeepklaa
