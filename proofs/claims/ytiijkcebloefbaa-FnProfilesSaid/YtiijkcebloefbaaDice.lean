/- The laws' own dice: they are rolled, and what they hand out. -/
import Derived.Test.YtiijkcebloefbaaDraw
import Derived.Laws.BitsAllLaws
namespace Go.Proofs.Ytiijkcebloefbaa
open Go.RowKit

def dieCells (A : Option Addr) (n c : Nat) (p : Nat) (s : Int) : Array Value := #[.slice A n c, .int .i64 p, .int .u64 s]
/-- The dice lie in block g, a block of their own from B on, over n bytes that lie below B. -/
def Die (w : World) (B g : Nat) (A : Option Addr) (n c : Nat) : Prop :=
  B ≤ g ∧ n ≤ 4096 ∧ Bts w B A n ∧ ∃ (p : Nat) (s : Int), p ≤ n ∧ w.heap[g]? = some (.cells (dieCells A n c p s) 67 (0, 0))
theorem die_cell {w : World} {g n c p : Nat} {A : Option Addr} {s : Int} {t : TypeId} (h : w.heap[g]? = some (.cells (dieCells A n c p s) t (0, 0))) : w.cell? ⟨g, 0, none⟩ = some (.slice A n c) ∧ w.cell? ⟨g, 1, none⟩ = some (.int .i64 p) ∧ w.cell? ⟨g, 2, none⟩ = some (.int .u64 s) ∧ (∀ i, w.frozen? ⟨g, i, none⟩ = false) := by
  refine ⟨?_, ?_, ?_, fun i => ?_⟩
  · simp [World.cell?, h, dieCells]
  · simp [World.cell?, h, dieCells]
  · simp [World.cell?, h, dieCells]
  · simp [World.frozen?, h]
theorem die_set {w : World} {g n c p : Nat} {A : Option Addr} {s : Int} {t : TypeId} (h : w.heap[g]? = some (.cells (dieCells A n c p s) t (0, 0))) (s' : Int) :
    (w.setCell ⟨g, 2, none⟩ (.int .u64 s')).heap[g]? = some (.cells (dieCells A n c p s') t (0, 0)) := by
  simp [World.setCell, Array.getElem?_modify, h, dieCells]
theorem die_set1 {w : World} {g n c p : Nat} {A : Option Addr} {s : Int} {t : TypeId} (h : w.heap[g]? = some (.cells (dieCells A n c p s) t (0, 0))) (p' : Nat) :
    (w.setCell ⟨g, 1, none⟩ (.int .i64 p')).heap[g]? = some (.cells (dieCells A n c p' s) t (0, 0)) := by
  simp [World.setCell, Array.getElem?_modify, h, dieCells]

/-- what the rolling answers -/
def Rolled (w : World) (B : Nat) (A : Option Addr) (n c : Nat) (e : Ending) (w' : World) : Prop :=
  ∃ g : Nat, e = .returned (.pointer (some ⟨g, 0, none⟩)) ∧ w.heap.size ≤ g ∧ g < w'.heap.size ∧ Die w' B g A n c ∧ Below w.heap.size w w'

set_option maxHeartbeats 4000000 in
theorem roll_any (B : Nat) (A : Option Addr) (n c : Nat) (s0 : Int) (w : World) (hb : Bts w B A n) (hB : B ≤ w.heap.size) (hn : n ≤ 4096) :
    Calls Try.prog 25 #[.slice A n c, .int .u64 s0] w (Rolled w B A n c) := by
  have HB := Lib.hid hb
  clear hb
  go_enter Try.func25, Try.ntmps25
  go_wp2
  go_loopw [6] (fun i wr => ∃ (k : Nat) (s : Int), k ≤ n ∧ i = .int .i64 k ∧ wr.heap[w.heap.size]? = some (.cells (dieCells A n c 0 s) 67 (0, 0)) ∧ Below w.heap.size w wr) (fun i _ => n - (intOf i).toNat)
  case atStart => exact ⟨0, _, Nat.zero_le _, rfl, heap_alloc_new w _, (Below.refl _ _).alloc (Nat.le_refl _) _⟩
  case round =>
    obtain ⟨k, s, hk, rfl, hh, hbl⟩ := hrel
    have hsz := hbl.size
    have HH := Lib.hid hh
    have HL := Lib.hid hbl
    obtain ⟨c0, c1, c2, cf⟩ := die_cell hh
    have f2 := cf 2
    clear hh hbl cf c0 c1
    by_cases h1 : k < n
    · obtain ⟨ad, rfl, hab, hbytes⟩ := HB.out (by omega)
      obtain ⟨u, u0, u1, hu⟩ := hbytes k h1
      clear hbytes
      have hu2 : wr.cell? (ad.add k) = some (.int .u8 u) := (HL.out.cell (by rw [block_of_add]; omega)).trans hu
      clear hu
      have i0 : (0 : Int) ≤ (k : Int) := by omega
      have i1 : (k : Int) < (n : Int) := by omega
      go_wp2
      go_region
      go_wp2
      go_roundw
      case rel =>
        refine ⟨k + 1, IntKind.u64.wrap (IntKind.u64.wrap (IntKind.u64.wrap (s * 1099511628211) + u) + 3), by omega, by go_num, ?_, ?_⟩
        · exact die_set HH.out _
        · exact (HL.out.setCell (p := ⟨w.heap.size, 2, none⟩) (Nat.le_refl _) _).drew
      case measure => simp [intOf]; omega
    · have HS : Hid (Die wr B w.heap.size A n c) := Lib.hid ⟨hB, hn, HB.out.keep (fun p hp => HL.out.cell (by omega)), 0, s, Nat.zero_le _, HH.out⟩
      have HG : Hid (w.heap.size < wr.heap.size) := Lib.hid (lt_of_heap HH.out)
      go_wp2
      go_ret
      exact ⟨w.heap.size, rfl, Nat.le_refl _, HG.out, HS.out, HL.out⟩

/-- what the dice hand out -/
def Thrown (w : World) (B g : Nat) (A : Option Addr) (n c : Nat) (m : Int) (e : Ending) (w' : World) : Prop :=
  ∃ r : Int, e = .returned (.int .i64 r) ∧ 0 ≤ r ∧ r < m ∧ Die w' B g A n c ∧ w.grownBy w' (some g)

theorem mask24 (a : Int) : 0 ≤ bits .and .u64 a 16777215 ∧ bits .and .u64 a 16777215 ≤ 16777215 := by
  have e : bits .and .u64 a 16777215 = IntKind.u64.wrap ((BitVec.ofInt 64 a &&& BitVec.ofInt 64 16777215).toNat : Int) := rfl
  have h1 : (BitVec.ofInt 64 a &&& BitVec.ofInt 64 16777215).toNat ≤ 16777215 := by
    rw [BitVec.toNat_and]
    exact Nat.le_trans Nat.and_le_right (by decide)
  rw [e, IntKind.wrap_u64]
  omega

theorem mask24_64 (a : Int) : 0 ≤ wrap64 (bits .and .u64 a 16777215) ∧ wrap64 (bits .and .u64 a 16777215) ≤ 16777215 := by
  have := mask24 a
  rw [IntWalk.wrap64_in _ ⟨by omega, by omega⟩]
  exact this
theorem grown_mid {w : World} {g : Nat} (x : Value) (q : Nat) : w.grownBy ((w.setCell ⟨g, 2, none⟩ x).drewN q) (some g) :=
  grown_drewN (grown_set (p := ⟨g, 2, none⟩) (World.grownBy.refl w (some g)) rfl x) q

set_option maxHeartbeats 4000000 in
theorem below_any (B g : Nat) (A : Option Addr) (n c : Nat) (m : Int) (w : World) (h : Die w B g A n c) (m0 : 1 ≤ m) (m1 : m ≤ 1000000000000) :
    Calls Try.prog 26 #[.pointer (some ⟨g, 0, none⟩), .int .i64 m] w (Thrown w B g A n c m) := by
  obtain ⟨hB, hn, hb, p, s, hp, hh⟩ := h
  have HH := Lib.hid hh
  obtain ⟨c0, c1, c2, cf⟩ := die_cell hh
  have f2 := cf 2
  have f1 := cf 1
  have HB := Lib.hid hb
  clear hh cf hb
  by_cases hlt : p < n
  · obtain ⟨ad, rfl, hab, hbytes⟩ := HB.out (by omega)
    obtain ⟨u, u0, u1, hu⟩ := hbytes p hlt
    have hne : ∀ i : Nat, (⟨g, i, none⟩ : Addr) ≠ ad.add p := fun i e => by have := congrArg Addr.block e; rw [block_of_add] at this; simp at this; omega
    have hu2 : ∀ x, (w.setCell ⟨g, 2, none⟩ x).cell? (ad.add p) = some (.int .u8 u) := fun x => (World.cell?_setCell_other _ _ _ _ (hne 2)).trans hu
    clear hbytes hne hu
    have i0 : (0 : Int) ≤ (p : Int) := by omega
    have i1 : (p : Int) < (n : Int) := by omega
    go_enter Try.func26, Try.ntmps26
    go_wp2
    have hx := mask24_64 (IntKind.u64.wrap (IntKind.u64.wrap (s * 6364136223846793005) + 1442695040888963407) / 8589934592)
    generalize wrap64 (bits BinOp.and IntKind.u64 (IntKind.u64.wrap (IntKind.u64.wrap (s * 6364136223846793005) + 1442695040888963407) / 8589934592) 16777215) = x at hx ⊢
    obtain ⟨x0, x1⟩ := hx
    go_quiet (fail)
    go_wp2
    go_quiet (fail)
    go_wp2
    go_ret
    exact ⟨_, rfl, Int.emod_nonneg _ (by omega), Int.emod_lt_of_pos _ (by omega), ⟨hB, hn, HB.out.grown (mid_grown0 _ _ _) hB, p + 1, _, by omega, die_set1 (w := World.drewN _ _) (die_set HH.out _) (p + 1)⟩, mid_grown0 _ _ _⟩
  · go_enter Try.func26, Try.ntmps26
    go_wp2
    have hx := mask24_64 (IntKind.u64.wrap (IntKind.u64.wrap (s * 6364136223846793005) + 1442695040888963407) / 8589934592)
    generalize wrap64 (bits BinOp.and IntKind.u64 (IntKind.u64.wrap (IntKind.u64.wrap (s * 6364136223846793005) + 1442695040888963407) / 8589934592) 16777215) = x at hx ⊢
    obtain ⟨x0, x1⟩ := hx
    go_quiet (fail)
    go_wp2
    go_ret
    exact ⟨_, rfl, Int.emod_nonneg _ (by omega), Int.emod_lt_of_pos _ (by omega), ⟨hB, hn, HB.out.grown (grown_mid _ _) hB, p, _, hp, die_set HH.out _⟩, grown_mid _ _⟩

end Go.Proofs.Ytiijkcebloefbaa
