/- ProfileText and ReadProfile of the program and of the model, and their laws: the walks. -/
import Derived.Test.YtiijkcebloefbaaDoorPText
namespace Go.Proofs.YtiijkcebloefbaaDoor
open Go.RowKit

/-- what a call answers that gives a text and a code -/
def GivesPText (w : World) (l : List UInt8) (code : Int) (e : Ending) (w' : World) : Prop := ∃ t : ByteArray, e = .returned (.tuple #[.string t, .int .i64 code]) ∧ Txt t l ∧ t.size ≤ 12 ∧ Below w.heap.size w w'

/-- the marks of a text as cells of a row, the first j of them -/
def marksV (n j : Nat) : List Value := ((List.range 12).take j).map (fun i => Value.int .u8 (markI (n.testBit (11 - i))))
theorem marksV_step {n j : Nat} {x : Int} (hj : j < 12) (hx : markI (n.testBit (11 - j)) = x) : marksV n j ++ [.int .u8 x] = marksV n (j + 1) := by
  unfold marksV
  rw [List.take_succ_eq_append_getElem (by simpa using hj), List.map_append, List.getElem_range, List.map_cons, List.map_nil, hx]
theorem marksV_at {n i : Nat} (hi : i < 12) : (marksV n 12)[i]? = some (.int .u8 (markI (n.testBit (11 - i)))) := by
  unfold marksV
  rw [List.take_of_length_le (by simp), List.getElem?_map, List.getElem?_range hi]; rfl

theorem or_nat64 (a b : Nat) (ha : a < 4096) (hb : b < 4096) : bits .or .i64 (a : Int) (b : Int) = ((a ||| b : Nat) : Int) := by
  have h : a ||| b < 4096 := Nat.or_lt_two_pow (n := 12) ha hb
  unfold bits
  show IntKind.i64.wrap (((BitVec.ofInt 64 (a : Int)) ||| (BitVec.ofInt 64 (b : Int))).toNat : Int) = _
  rw [BitVec.toNat_or, BitVec.ofInt_natCast, BitVec.ofInt_natCast, BitVec.toNat_ofNat, BitVec.toNat_ofNat, Nat.mod_eq_of_lt (by omega), Nat.mod_eq_of_lt (by omega), IntKind.wrap_i64]
  omega
theorem or_one (v : Nat) (h : v < 2048) : bits .or .i64 ((v : Int) * 2) 1 = 2 * (v : Int) + 1 := by
  have e : (v : Int) * 2 = ((v * 2 : Nat) : Int) := by omega
  have h1 : ((1 : Nat) : Int) = 1 := rfl
  rw [e, ← h1, or_nat64 _ _ (by omega) (by omega), nat_join 1 (v * 2) 1 (by omega) (by omega)]
  omega
theorem byte_at {s : ByteArray} {k : Nat} (hk : k < s.size) : s.data.toList[k]? = some s[k] := by
  rw [List.getElem?_eq_getElem (by rw [Array.length_toList]; exact hk)]; rfl
theorem byte_eq (b : UInt8) (c : UInt8) : ((b.toNat : Int) == (c.toNat : Int)) = decide (b = c) := by
  by_cases h : b = c
  · subst h; simp
  · rw [decide_eq_false h]
    simp
    intro e
    exact h (UInt8.toNat_inj.1 (by omega))

end Go.Proofs.YtiijkcebloefbaaDoor
