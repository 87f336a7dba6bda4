/- Sets of depths as bits, and the block of a lock whose sets are bits. -/
import Derived.Test.YtjoknbknhfnggaaOpMath
import Derived.Test.YtjoknbknhfnggaaLent
import Derived.RegionTactic
import Derived.BigRegion
namespace Go.Proofs.Ytjoknbknhfnggaa
open Go Go.RowKit

/-- what frees the chambers of a lock whose sets are bits -/
def bitP (vs : Nat → Nat) (i d : Nat) : Bool := (vs i).testBit d
/-- the numbers after a depth has come to the set of a chamber -/
def bitAdd (vs : Nat → Nat) (i d : Nat) : Nat → Nat := fun j => if j = i then nxtU (vs i) d else vs j
theorem bitP_add (vs : Nat → Nat) (i d j e : Nat) : bitP (bitAdd vs i d) j e = (bitP vs j e || (decide (j = i) && decide (e = d))) := by
  unfold bitP bitAdd
  by_cases h : j = i
  · subst h; rw [if_pos rfl, bit_or]; simp
  · rw [if_neg h]; simp [h]
theorem bitAdd_lt {vs : Nat → Nat} (h : ∀ i, vs i < 256) (i : Nat) {d : Nat} (hd : d < 8) : ∀ j, bitAdd vs i d j < 256 := by
  intro j
  unfold bitAdd
  split
  · exact nxtU_lt (h i) hd
  · exact h j
/-- a block that holds a lock of bits -/
def BitBox (w : World) (b : Nat) (t : TypeId) (m : Mk) (vs : Nat → Nat) : Prop := w.heap[b]? = some (.cells #[.int .i64 m.C, .int .i64 m.D, .int .i64 m.S, .int .i64 m.M, .int .i64 m.L, .int .u8 (vs 0 : Nat), .int .u8 (vs 1 : Nat), .int .u8 (vs 2 : Nat), .int .u8 (vs 3 : Nat), .int .u8 (vs 4 : Nat), .int .u8 (vs 5 : Nat)] t (0, 0))
theorem BitBox.lt {w : World} {b : Nat} {t : TypeId} {m : Mk} {vs : Nat → Nat} (h : BitBox w b t m vs) : b < w.heap.size := heapLt h
theorem BitBox.new (w : World) (t : TypeId) (m : Mk) (vs : Nat → Nat) : BitBox (w.alloc (.cells #[.int .i64 m.C, .int .i64 m.D, .int .i64 m.S, .int .i64 m.M, .int .i64 m.L, .int .u8 (vs 0 : Nat), .int .u8 (vs 1 : Nat), .int .u8 (vs 2 : Nat), .int .u8 (vs 3 : Nat), .int .u8 (vs 4 : Nat), .int .u8 (vs 5 : Nat)] t)) w.heap.size t m vs := heap_alloc_new w _
theorem BitBox.below {w w' : World} {b B : Nat} {t : TypeId} {m : Mk} {vs : Nat → Nat} (h : BitBox w b t m vs) (hb : Below B w w') (hB : b < B) : BitBox w' b t m vs := (hb.block b hB).trans h
theorem BitBox.on {w w' : World} {b : Nat} {t : TypeId} {m : Mk} {vs : Nat → Nat} (h : BitBox w b t m vs) (hb : Below w.heap.size w w') : BitBox w' b t m vs := h.below hb h.lt
theorem BitBox.drewN {w : World} {b : Nat} {t : TypeId} {m : Mk} {vs : Nat → Nat} (h : BitBox w b t m vs) (n : Nat) : BitBox (w.drewN n) b t m vs := h
theorem BitBox.alloc {w : World} {b : Nat} {t : TypeId} {m : Mk} {vs : Nat → Nat} (h : BitBox w b t m vs) (o : Obj) : BitBox (w.alloc o) b t m vs := (Below.heap_alloc w o b h.lt).trans h
theorem BitBox.grown {w w' : World} {b : Nat} {t : TypeId} {m : Mk} {vs : Nat → Nat} {row : Option Nat} (h : BitBox w b t m vs) (hg : w.grownBy w' row) (hr : some b ≠ row) : BitBox w' b t m vs := (hg.block b h.lt hr).trans h
theorem BitBox.cells {w : World} {b : Nat} {t : TypeId} {m : Mk} {vs : Nat → Nat} (h : BitBox w b t m vs) : w.cell? ⟨b, 0, none⟩ = some (.int .i64 m.C) ∧ w.cell? ⟨b, 1, none⟩ = some (.int .i64 m.D) ∧ w.cell? ⟨b, 2, none⟩ = some (.int .i64 m.S) ∧ w.cell? ⟨b, 3, none⟩ = some (.int .i64 m.M) ∧ w.cell? ⟨b, 4, none⟩ = some (.int .i64 m.L) ∧
    w.cell? ⟨b, 5, none⟩ = some (.int .u8 (vs 0 : Nat)) ∧ w.cell? ⟨b, 6, none⟩ = some (.int .u8 (vs 1 : Nat)) ∧ w.cell? ⟨b, 7, none⟩ = some (.int .u8 (vs 2 : Nat)) ∧ w.cell? ⟨b, 8, none⟩ = some (.int .u8 (vs 3 : Nat)) ∧ w.cell? ⟨b, 9, none⟩ = some (.int .u8 (vs 4 : Nat)) ∧ w.cell? ⟨b, 10, none⟩ = some (.int .u8 (vs 5 : Nat)) := by
  unfold BitBox at h
  refine ⟨?_, ?_, ?_, ?_, ?_, ?_, ?_, ?_, ?_, ?_, ?_⟩ <;> simp [World.cell?, h]
theorem BitBox.bit {w : World} {b : Nat} {t : TypeId} {m : Mk} {vs : Nat → Nat} (h : BitBox w b t m vs) {i : Nat} (hi : i < 6) : w.cell? ⟨b, 5 + i, none⟩ = some (.int .u8 (vs i : Nat)) := by
  obtain ⟨_, _, _, _, _, h0, h1, h2, h3, h4, h5⟩ := h.cells
  match i, hi with
  | 0, _ => exact h0
  | 1, _ => exact h1
  | 2, _ => exact h2
  | 3, _ => exact h3
  | 4, _ => exact h4
  | 5, _ => exact h5
theorem BitBox.thawed {w : World} {b : Nat} {t : TypeId} {m : Mk} {vs : Nat → Nat} (h : BitBox w b t m vs) (i : Nat) : w.frozen? ⟨b, i, none⟩ = false := by
  unfold BitBox at h
  simp [World.frozen?, h]
/-- a depth has come to the set of a chamber -/
theorem BitBox.put {w : World} {b : Nat} {t : TypeId} {m : Mk} {vs : Nat → Nat} (h : BitBox w b t m vs) {i d : Nat} (hi : i < 6) : BitBox (w.setCell ⟨b, 5 + i, none⟩ (.int .u8 ((nxtU (vs i) d : Nat) : Int))) b t m (bitAdd vs i d) := by
  have hb := h.lt
  unfold BitBox at *
  match i, hi with
  | 0, _ => simp [World.setCell, bitAdd, Array.getElem?_modify, h]
  | 1, _ => simp [World.setCell, bitAdd, Array.getElem?_modify, h]
  | 2, _ => simp [World.setCell, bitAdd, Array.getElem?_modify, h]
  | 3, _ => simp [World.setCell, bitAdd, Array.getElem?_modify, h]
  | 4, _ => simp [World.setCell, bitAdd, Array.getElem?_modify, h]
  | 5, _ => simp [World.setCell, bitAdd, Array.getElem?_modify, h]

theorem u8_or : ∀ v, v < 256 → ∀ d, d < 8 → bits .or .u8 ((v : Nat) : Int) (2 ^ d % 256) = ((nxtU v d : Nat) : Int) := by decide +kernel
theorem u8_has : ∀ v, v < 256 → ∀ d, d < 8 → (bits .and .u8 (((v : Nat) : Int) / 2 ^ d) 1 == 1) = v.testBit d := by decide +kernel

set_option maxHeartbeats 1000000 in
theorem add_any (p : Addr) (v d : Nat) (w : World) (hv : v < 256) (hd : d < 8) (hc : w.cell? p = some (.int .u8 (v : Int))) (hf : w.frozen? p = false) :
    Calls Try.prog 112 #[.pointer (some p), .int .i64 (d : Int)] w fun e w' => e = .returned (.tuple #[]) ∧ ∃ q, w' = (w.setCell p (.int .u8 ((nxtU v d : Nat) : Int))).drewN q := by
  have ho := u8_or v hv d hd
  go_enter Try.func112, Try.ntmps112
  go_wp2
  go_region
  go_end0
  exact ⟨rfl, 1, rfl⟩

theorem has_any (v d : Nat) (w : World) (hv : v < 256) (hd : d < 8) :
    Calls Try.prog 113 #[.int .u8 (v : Int), .int .i64 (d : Int)] w fun e w' => e = .returned (.bool (v.testBit d)) ∧ w = w' := by
  have ho := u8_has v hv d hd
  go_enter Try.func113, Try.ntmps113
  go_wp2
  go_ret
  exact ⟨rfl, rfl⟩

end Go.Proofs.Ytjoknbknhfnggaa
