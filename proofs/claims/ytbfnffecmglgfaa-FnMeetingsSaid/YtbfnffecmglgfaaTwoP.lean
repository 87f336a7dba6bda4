/- Two locks of bits, as the program makes them: words. -/
import Derived.Test.YtbfnffecmglgfaaTwo
import Derived.Deep.RegionWith
namespace Go.Proofs.Ytbfnffecmglgfaa
open Go Go.RowKit

theorem or_lt {a b : Nat} (ha : a < 256) (hb : b < 256) : a ||| b < 256 := Nat.or_lt_two_pow (n := 8) ha hb
theorem and_lt {a b : Nat} (ha : a < 256) : a &&& b < 256 := Nat.lt_of_le_of_lt Nat.and_le_left ha
theorem u8_or2 {a b : Nat} (ha : a < 256) (hb : b < 256) : bits .or .u8 (a : Int) (b : Int) = ((a ||| b : Nat) : Int) := by
  have h := or_lt ha hb
  unfold bits
  show IntKind.u8.wrap (((BitVec.ofInt 8 (a : Int)) ||| (BitVec.ofInt 8 (b : Int))).toNat : Int) = _
  rw [BitVec.toNat_or, BitVec.ofInt_natCast, BitVec.ofInt_natCast, BitVec.toNat_ofNat, BitVec.toNat_ofNat, Nat.mod_eq_of_lt ha, Nat.mod_eq_of_lt hb]
  unfold IntKind.wrap
  simp [IntKind.bits, IntKind.signed]
  omega
theorem u8_and2 {a b : Nat} (ha : a < 256) (hb : b < 256) : bits .and .u8 (a : Int) (b : Int) = ((a &&& b : Nat) : Int) := by
  have h := and_lt (b := b) ha
  unfold bits
  show IntKind.u8.wrap (((BitVec.ofInt 8 (a : Int)) &&& (BitVec.ofInt 8 (b : Int))).toNat : Int) = _
  rw [BitVec.toNat_and, BitVec.ofInt_natCast, BitVec.ofInt_natCast, BitVec.toNat_ofNat, BitVec.toNat_ofNat, Nat.mod_eq_of_lt ha, Nat.mod_eq_of_lt hb]
  unfold IntKind.wrap
  simp [IntKind.bits, IntKind.signed]
  omega

/-- the numbers after one has been written over -/
def bitSet (vs : Nat → Nat) (i v : Nat) : Nat → Nat := fun j => if j = i then v else vs j
theorem bitSet_lt {vs : Nat → Nat} (h : ∀ i, vs i < 256) (i : Nat) {v : Nat} (hv : v < 256) : ∀ j, bitSet vs i v j < 256 := by
  intro j
  unfold bitSet
  split
  · exact hv
  · exact h j
theorem BitBox.putV {w : World} {b : Nat} {t : TypeId} {m : Mk} {vs : Nat → Nat} (h : BitBox w b t m vs) {i : Nat} (hi : i < 6) (v : Nat) : BitBox (w.setCell ⟨b, 5 + i, none⟩ (.int .u8 (v : Int))) b t m (bitSet vs i v) := by
  unfold BitBox at *
  match i, hi with
  | 0, _ => simp [World.setCell, bitSet, Array.getElem?_modify, h]
  | 1, _ => simp [World.setCell, bitSet, Array.getElem?_modify, h]
  | 2, _ => simp [World.setCell, bitSet, Array.getElem?_modify, h]
  | 3, _ => simp [World.setCell, bitSet, Array.getElem?_modify, h]
  | 4, _ => simp [World.setCell, bitSet, Array.getElem?_modify, h]
  | 5, _ => simp [World.setCell, bitSet, Array.getElem?_modify, h]
theorem grown_put11 (W : World) (b : Nat) (m : Mk) (vs : Nat → Nat) : W.grownBy (put11 W b m vs) (some b) := by
  unfold put11
  exact grown_set (p := ⟨b, 10, none⟩) (grown_set (p := ⟨b, 9, none⟩) (grown_set (p := ⟨b, 8, none⟩) (grown_set (p := ⟨b, 7, none⟩) (grown_set (p := ⟨b, 6, none⟩) (grown_set (p := ⟨b, 5, none⟩) (grown_set (p := ⟨b, 4, none⟩) (grown_set (p := ⟨b, 3, none⟩) (grown_set (p := ⟨b, 2, none⟩) (grown_set (p := ⟨b, 1, none⟩) (grown_set (p := ⟨b, 0, none⟩) (World.grownBy.refl W (some b)) rfl _) rfl _) rfl _) rfl _) rfl _) rfl _) rfl _) rfl _) rfl _) rfl _) rfl _
theorem JArg.under {w W W' : World} {m : Mk} {V : Option Addr} {n c : Nat} {yss : List (List Int)} {V' : Option Addr} {n' c' : Nat} {zss : List (List Int)} {B : Nat} (h : JArg w W m V n c yss V' n' c' zss) (bl : Below B W W') (hB : w.heap.size + 3 < B) : JArg w W' m V n c yss V' n' c' zss :=
  ⟨h.box.below bl (by omega), h.a.below bl (by omega), h.b.below bl (by omega), h.o.below bl (by omega), h.sa.below (bl.mono (by omega)), h.sb.below (bl.mono (by omega)), h.bel.trans (bl.mono (by omega))⟩

/-- a block for a lock of bits, of the call's own -/
def ZB (w : World) (W : World) (g : Nat) : Prop := BitBox W g 106 ⟨0, 0, 0, 0, 0⟩ (fun _ => 0) ∧ w.heap.size + 3 < g
theorem ZB.on {w W W' : World} {g : Nat} (h : ZB w W g) (b : Below W.heap.size W W') : ZB w W' g := ⟨h.1.on b, h.2⟩
theorem ZB.alloc {w W : World} {g : Nat} (h : ZB w W g) (o : Obj) : ZB w (W.alloc o) g := ⟨h.1.alloc o, h.2⟩
theorem ZB.new {w W : World} {m : Mk} {V : Option Addr} {n c : Nat} {yss : List (List Int)} {V' : Option Addr} {n' c' : Nat} {zss : List (List Int)} (h : JArg w W m V n c yss V' n' c' zss) : ZB w (W.alloc (.cells #[.int .i64 0, .int .i64 0, .int .i64 0, .int .i64 0, .int .i64 0, .int .u8 0, .int .u8 0, .int .u8 0, .int .u8 0, .int .u8 0, .int .u8 0] 106)) W.heap.size := by
  refine ⟨BitBox.zero W 106 ⟨0, 0, 0, 0, 0⟩ rfl, ?_⟩
  have := h.o.lt
  omega
theorem box_off {W : World} {g h : Nat} {t : TypeId} {m m' : Mk} {vs us : Nat → Nat} (hb : BitBox W g t m vs) (hn : g ≠ h) : BitBox (put11 W h m' us) g t m vs := ((grown_put11 W h m' us).block g hb.lt (fun e => hn (by injection e))).trans hb

/-- a region's walk, its words under one name -/
theorem with_node {P : Program} {md : Region.Mode} {ops : Array Oper} {Q : Exit → Act → World → Prop} {S : World → Prop} {fuel : Nat} {listed : Array Bool} {a : Act} {w : World} (h : ∀ G : Nat → Array Bool → Act → World → Prop, G = wpAnyH P md ops Q S → G fuel listed a w) : wpAnyH P md ops Q S fuel listed a w := h _ rfl

end Go.Proofs.Ytbfnffecmglgfaa
