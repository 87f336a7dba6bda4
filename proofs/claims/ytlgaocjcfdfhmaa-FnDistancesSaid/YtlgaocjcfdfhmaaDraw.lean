/- The model's draws: the source and what it hands out. -/
import Derived.Test.YtlgaocjcfdfhmaaOwn
namespace Go.Proofs.Ytlgaocjcfdfhmaa
open Go.RowKit

/-- The slice value '.slice A n c' reads as n bytes below block B. -/
def Bts (w : World) (B : Nat) (A : Option Addr) (n : Nat) : Prop :=
  0 < n → ∃ ad, A = some ad ∧ ad.block < B ∧ ∀ j, j < n → ∃ u : Int, 0 ≤ u ∧ u ≤ 255 ∧ w.cell? (ad.add j) = some (.int .u8 u)
theorem Bts.keep {w w' : World} {B n : Nat} {A : Option Addr} (h : Bts w B A n) (hk : ∀ p : Addr, p.block < B → w'.cell? p = w.cell? p) : Bts w' B A n := fun hn => by
  obtain ⟨ad, e, hb, hc⟩ := h hn
  refine ⟨ad, e, hb, fun j hj => ?_⟩
  obtain ⟨u, u0, u1, hu⟩ := hc j hj
  exact ⟨u, u0, u1, (hk _ (by rw [block_of_add]; exact hb)).trans hu⟩
/-- The source of draws lies in block g, a block of its own from B on, over n bytes that lie below B. -/
def Src (w : World) (B g : Nat) (A : Option Addr) (n c : Nat) : Prop :=
  B ≤ g ∧ n ≤ 4096 ∧ Bts w B A n ∧ ∃ (p : Nat) (s : Int), p ≤ n ∧ 0 ≤ s ∧ s ≤ 2147483646 ∧ w.heap[g]? = some (.cells #[.slice A n c, .int .i64 p, .int .i64 s] 75 (0, 0))

def srcCells (A : Option Addr) (n c : Nat) (p : Nat) (s : Int) : Array Value := #[.slice A n c, .int .i64 p, .int .i64 s]
theorem src_cell0 {w : World} {g n c p : Nat} {A : Option Addr} {s : Int} {t : TypeId} (h : w.heap[g]? = some (.cells (srcCells A n c p s) t (0, 0))) : w.cell? ⟨g, 0, none⟩ = some (.slice A n c) ∧ w.cell? ⟨g, 1, none⟩ = some (.int .i64 p) ∧ w.cell? ⟨g, 2, none⟩ = some (.int .i64 s) ∧ (∀ i, w.frozen? ⟨g, i, none⟩ = false) := by
  refine ⟨?_, ?_, ?_, fun i => ?_⟩
  · simp [World.cell?, h, srcCells]
  · simp [World.cell?, h, srcCells]
  · simp [World.cell?, h, srcCells]
  · simp [World.frozen?, h]
/-- the source after a draw: its last two cells are others -/
theorem src_set {w : World} {g n c p : Nat} {A : Option Addr} {s : Int} {t : TypeId} (h : w.heap[g]? = some (.cells (srcCells A n c p s) t (0, 0))) (s' : Int) :
    (w.setCell ⟨g, 2, none⟩ (.int .i64 s')).heap[g]? = some (.cells (srcCells A n c p s') t (0, 0)) := by
  simp [World.setCell, Array.getElem?_modify, h, srcCells]
theorem src_set1 {w : World} {g n c p : Nat} {A : Option Addr} {s : Int} {t : TypeId} (h : w.heap[g]? = some (.cells (srcCells A n c p s) t (0, 0))) (p' : Nat) :
    (w.setCell ⟨g, 1, none⟩ (.int .i64 p')).heap[g]? = some (.cells (srcCells A n c p' s) t (0, 0)) := by
  simp [World.setCell, Array.getElem?_modify, h, srcCells]

theorem grown_drewN {a w : World} {row : Option Nat} (h : a.grownBy w row) (n : Nat) : a.grownBy (w.drewN n) row := ⟨h.os, h.tape, h.output, h.size, h.block⟩
theorem Bts.grown {w w' : World} {B n g : Nat} {A : Option Addr} (h : Bts w B A n) (hg : w.grownBy w' (some g)) (hB : B ≤ g) : Bts w' B A n := fun hn => by
  obtain ⟨ad, e, hb, hc⟩ := h hn
  refine ⟨ad, e, hb, fun j hj => ?_⟩
  obtain ⟨u, u0, u1, hu⟩ := hc j hj
  exact ⟨u, u0, u1, hg.cell hu (by rw [block_of_add]; intro e; injection e with e; omega)⟩
theorem src_after {w w' : World} {B g n c p : Nat} {A : Option Addr} {s : Int} (hB : B ≤ g) (hn : n ≤ 4096) (hb : Bts w B A n) (hg : w.grownBy w' (some g)) (hp : p ≤ n) (s0 : 0 ≤ s) (s1 : s ≤ 2147483646)
    (hh : w'.heap[g]? = some (.cells (srcCells A n c p s) 75 (0, 0))) : Src w' B g A n c :=
  ⟨hB, hn, hb.grown hg hB, p, s, hp, s0, s1, hh⟩
theorem grown_trans' {a b c : World} {g : Nat} (h : a.grownBy b (some g)) (k : b.grownBy c (some g)) : a.grownBy c (some g) :=
  ⟨k.os.trans h.os, k.tape.trans h.tape, k.output.trans h.output, Nat.le_trans h.size k.size, fun i hi hne => (k.block i (Nat.lt_of_lt_of_le hi h.size) hne).trans (h.block i hi hne)⟩

theorem mid_grown0 {w : World} {g : Nat} (x : Value) (q : Nat) (y : Value) : w.grownBy (((w.setCell ⟨g, 2, none⟩ x).drewN q).setCell ⟨g, 1, none⟩ y) (some g) :=
  grown_set (p := ⟨g, 1, none⟩) (grown_drewN (grown_set (p := ⟨g, 2, none⟩) (World.grownBy.refl w (some g)) rfl x) q) rfl y
theorem mid_grown {w : World} {g : Nat} (x : Value) (q : Nat) (y : Value) (r : Nat) : w.grownBy ((((w.setCell ⟨g, 2, none⟩ x).drewN q).setCell ⟨g, 1, none⟩ y).drewN r) (some g) :=
  grown_drewN (mid_grown0 x q y) r

/-- what a draw answers -/
def Drawn (w : World) (B g : Nat) (A : Option Addr) (n c : Nat) (m : Int) (e : Ending) (w' : World) : Prop :=
  ∃ r : Int, e = .returned (.int .i64 r) ∧ 0 ≤ r ∧ (r < m ∨ r = 0) ∧ Src w' B g A n c ∧ w.grownBy w' (some g)

theorem l01Next_one (B g : Nat) (A : Option Addr) (n c : Nat) (m : Int) (w : World) (h : Src w B g A n c) (hm : m ≤ 1) :
    Calls Try.prog 56 #[.pointer (some ⟨g, 0, none⟩), .int .i64 m] w (Drawn w B g A n c m) := by
  go_enter Try.func56, Try.ntmps56
  go_wp2
  go_ret
  exact ⟨0, rfl, by omega, .inr rfl, h, World.grownBy.refl _ _⟩

set_option maxHeartbeats 2000000 in
theorem l01Next_end (B g : Nat) (A : Option Addr) (n c : Nat) (m : Int) (w : World) (hB : B ≤ g) (hn : n ≤ 4096) (hb : Bts w B A n) (p : Nat) (s : Int) (hp : ¬ p < n) (hp2 : p ≤ n) (s0 : 0 ≤ s) (s1 : s ≤ 2147483646)
    (hh : w.heap[g]? = some (.cells (srcCells A n c p s) 75 (0, 0))) (hm : 1 < m) (hm2 : m ≤ 1000000000000) :
    Calls Try.prog 56 #[.pointer (some ⟨g, 0, none⟩), .int .i64 m] w (Drawn w B g A n c m) := by
  have HH := Lib.hid hh
  obtain ⟨c0, c1, c2, cf⟩ := src_cell0 hh
  have f2 := cf 2
  have HB := Lib.hid hb
  clear hh cf hb
  go_enter Try.func56, Try.ntmps56
  go_wp2
  go_quiet (fail)
  go_wp2
  go_ret
  refine ⟨_, rfl, Int.emod_nonneg _ (by omega), .inl (Int.emod_lt_of_pos _ (by omega)), ?_, ?_⟩
  · exact src_after hB hn HB.out (grown_drewN (grown_set (p := ⟨g, 2, none⟩) (World.grownBy.refl w (some g)) rfl _) _) hp2 (Int.emod_nonneg _ (by decide)) (by omega) (src_set HH.out _)
  · exact grown_drewN (grown_set (p := ⟨g, 2, none⟩) (World.grownBy.refl w (some g)) rfl _) _

set_option maxHeartbeats 4000000 in
theorem l01Next_mid (B g : Nat) (A : Option Addr) (n c : Nat) (m : Int) (w : World) (hB : B ≤ g) (hn : n ≤ 4096) (hb : Bts w B A n) (p : Nat) (s : Int) (hp : p < n) (s0 : 0 ≤ s) (s1 : s ≤ 2147483646)
    (hh : w.heap[g]? = some (.cells (srcCells A n c p s) 75 (0, 0))) (hm : 1 < m) (hm2 : m ≤ 1000000000000) :
    Calls Try.prog 56 #[.pointer (some ⟨g, 0, none⟩), .int .i64 m] w (Drawn w B g A n c m) := by
  have HH := Lib.hid hh
  obtain ⟨c0, c1, c2, cf⟩ := src_cell0 hh
  have f2 := cf 2
  have f1 := cf 1
  have HB := Lib.hid hb
  obtain ⟨ad, rfl, hab, hbytes⟩ := hb (by omega)
  obtain ⟨u, u0, u1, hu⟩ := hbytes p hp
  clear hh cf hb hbytes
  have hne : ∀ i : Nat, (⟨g, i, none⟩ : Addr) ≠ ad.add p := fun i e => by have := congrArg Addr.block e; rw [block_of_add] at this; simp at this; omega
  have hu2 : ∀ x, (w.setCell ⟨g, 2, none⟩ x).cell? (ad.add p) = some (.int .u8 u) := fun x => (World.cell?_setCell_other _ _ _ _ (hne 2)).trans hu
  have hu3 : ∀ x q y, (((w.setCell ⟨g, 2, none⟩ x).drewN q).setCell ⟨g, 1, none⟩ y).cell? (ad.add p) = some (.int .u8 u) := fun x q y => (World.cell?_setCell_other _ _ _ _ (hne 1)).trans (hu2 x)
  clear hne hu
  have i0 : (0 : Int) ≤ (p : Int) := by omega
  have i1 : (p : Int) < (n : Int) := by omega
  by_cases h1 : m ≤ 256
  · by_cases h2 : ((p : Int) + 1) % 2 = 0
    · have h2' : (((p : Int) + 1) % 2 == 0) = true := by simpa using h2
      clear h2
      go_enter Try.func56, Try.ntmps56
      go_wp2
      go_quiet (fail)
      go_wp2
      go_quiet (fail)
      go_wp2
      have e1 : IntKind.i64.wrap ((p : Int) + 1 - 1) = (p : Int) := by rw [IntKind.wrap_i64]; omega
      have e2 : IntKind.i64.wrap (p : Int) = (p : Int) := by rw [IntKind.wrap_i64]; omega
      go_quiet (fail)
      clear e1 e2
      go_wp2
      go_ret
      refine ⟨_, rfl, Int.emod_nonneg _ (by omega), .inl (Int.emod_lt_of_pos _ (by omega)), ?_, ?_⟩
      · exact src_after hB hn HB.out (mid_grown _ _ _ _) (by omega) (Int.emod_nonneg _ (by decide)) (by omega) (src_set1 (w := World.drewN _ _) (src_set HH.out _) (p + 1))
      · exact mid_grown _ _ _ _
    · have h2' : (((p : Int) + 1) % 2 == 0) = false := by simpa using h2
      clear h2
      go_enter Try.func56, Try.ntmps56
      go_wp2
      go_quiet (fail)
      go_wp2
      go_quiet (fail)
      go_wp2
      go_ret
      refine ⟨_, rfl, Int.emod_nonneg _ (by omega), .inl (Int.emod_lt_of_pos _ (by omega)), ?_, ?_⟩
      · exact src_after hB hn HB.out (mid_grown0 _ _ _) (by omega) (Int.emod_nonneg _ (by decide)) (by omega) (src_set1 (w := World.drewN _ _) (src_set HH.out _) (p + 1))
      · exact mid_grown0 _ _ _
  · go_enter Try.func56, Try.ntmps56
    go_wp2
    go_quiet (fail)
    go_wp2
    go_quiet (fail)
    go_wp2
    go_ret
    refine ⟨_, rfl, Int.emod_nonneg _ (by omega), .inl (Int.emod_lt_of_pos _ (by omega)), ?_, ?_⟩
    · exact src_after hB hn HB.out (mid_grown0 _ _ _) (by omega) (Int.emod_nonneg _ (by decide)) (by omega) (src_set1 (w := World.drewN _ _) (src_set HH.out _) (p + 1))
    · exact mid_grown0 _ _ _

theorem l01Next_any (B g : Nat) (A : Option Addr) (n c : Nat) (m : Int) (w : World) (h : Src w B g A n c) (hm : m ≤ 1000000000000) :
    Calls Try.prog 56 #[.pointer (some ⟨g, 0, none⟩), .int .i64 m] w (Drawn w B g A n c m) := by
  by_cases h1 : m ≤ 1
  · exact l01Next_one B g A n c m w h h1
  · obtain ⟨hB, hn, hb, p, s, hp, s0, s1, hh⟩ := h
    by_cases hlt : p < n
    · exact l01Next_mid B g A n c m w hB hn hb p s hlt s0 s1 hh (by omega) hm
    · exact l01Next_end B g A n c m w hB hn hb p s hlt hp s0 s1 hh (by omega) hm

end Go.Proofs.Ytlgaocjcfdfhmaa
