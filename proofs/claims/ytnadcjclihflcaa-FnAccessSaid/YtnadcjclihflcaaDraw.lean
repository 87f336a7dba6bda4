/- The model's draws: the source and what it hands out. The source of draws is made; one of some numbers is picked. The draw for ChooseOf. The draw for IsRising. Draws of a number and of a list of numbers. What every law of drawn inputs begins with: the argument's bytes, the test of its length, lists compared. -/
import Derived.Test.YtnadcjclihflcaaOwn
import Derived.RegionTactic
import Derived.BigRegion
import Derived.Deep.AppendLies
import Derived.OpenShut
namespace Go.Proofs.Ytnadcjclihflcaa
open Go.RowKit

/-- The slice value '.slice A n c' reads as n bytes below block B. -/
def Bts (w : World) (B : Nat) (A : Option Addr) (n : Nat) : Prop :=
  0 < n → ∃ ad, A = some ad ∧ ad.block < B ∧ ∀ j, j < n → ∃ u : Int, 0 ≤ u ∧ u ≤ 255 ∧ w.cell? (ad.add j) = some (.int .u8 u)
theorem Bts.keep {w w' : World} {B n : Nat} {A : Option Addr} (h : Bts w B A n) (hk : ∀ p : Addr, p.block < B → w'.cell? p = w.cell? p) : Bts w' B A n := fun hn => by
  obtain ⟨ad, e, hb, hc⟩ := h hn
  refine ⟨ad, e, hb, fun j hj => ?_⟩
  obtain ⟨u, u0, u1, hu⟩ := hc j hj
  exact ⟨u, u0, u1, (hk _ (by rw [block_of_add]; exact hb)).trans hu⟩
/-- The source of draws lies in block g, a block of its own from B on, over n bytes that lie below B. -/
def Src (w : World) (B g : Nat) (A : Option Addr) (n c : Nat) : Prop :=
  B ≤ g ∧ n ≤ 4096 ∧ Bts w B A n ∧ ∃ (p : Nat) (s : Int), p ≤ n ∧ 0 ≤ s ∧ s ≤ 2147483646 ∧ w.heap[g]? = some (.cells #[.slice A n c, .int .i64 p, .int .i64 s] 120 (0, 0))

def srcCells (A : Option Addr) (n c : Nat) (p : Nat) (s : Int) : Array Value := #[.slice A n c, .int .i64 p, .int .i64 s]
theorem src_cell0 {w : World} {g n c p : Nat} {A : Option Addr} {s : Int} {t : TypeId} (h : w.heap[g]? = some (.cells (srcCells A n c p s) t (0, 0))) : w.cell? ⟨g, 0, none⟩ = some (.slice A n c) ∧ w.cell? ⟨g, 1, none⟩ = some (.int .i64 p) ∧ w.cell? ⟨g, 2, none⟩ = some (.int .i64 s) ∧ (∀ i, w.frozen? ⟨g, i, none⟩ = false) := by
  refine ⟨?_, ?_, ?_, fun i => ?_⟩
  · simp [World.cell?, h, srcCells]
  · simp [World.cell?, h, srcCells]
  · simp [World.cell?, h, srcCells]
  · simp [World.frozen?, h]
/-- the source after a draw: its last two cells are others -/
theorem src_set {w : World} {g n c p : Nat} {A : Option Addr} {s : Int} {t : TypeId} (h : w.heap[g]? = some (.cells (srcCells A n c p s) t (0, 0))) (s' : Int) :
    (w.setCell ⟨g, 2, none⟩ (.int .i64 s')).heap[g]? = some (.cells (srcCells A n c p s') t (0, 0)) := by
  simp [World.setCell, Array.getElem?_modify, h, srcCells]
theorem src_set1 {w : World} {g n c p : Nat} {A : Option Addr} {s : Int} {t : TypeId} (h : w.heap[g]? = some (.cells (srcCells A n c p s) t (0, 0))) (p' : Nat) :
    (w.setCell ⟨g, 1, none⟩ (.int .i64 p')).heap[g]? = some (.cells (srcCells A n c p' s) t (0, 0)) := by
  simp [World.setCell, Array.getElem?_modify, h, srcCells]

theorem grown_drewN {a w : World} {row : Option Nat} (h : a.grownBy w row) (n : Nat) : a.grownBy (w.drewN n) row := ⟨h.os, h.tape, h.output, h.size, h.block⟩
theorem Bts.grown {w w' : World} {B n g : Nat} {A : Option Addr} (h : Bts w B A n) (hg : w.grownBy w' (some g)) (hB : B ≤ g) : Bts w' B A n := fun hn => by
  obtain ⟨ad, e, hb, hc⟩ := h hn
  refine ⟨ad, e, hb, fun j hj => ?_⟩
  obtain ⟨u, u0, u1, hu⟩ := hc j hj
  exact ⟨u, u0, u1, hg.cell hu (by rw [block_of_add]; intro e; injection e with e; omega)⟩
theorem src_after {w w' : World} {B g n c p : Nat} {A : Option Addr} {s : Int} (hB : B ≤ g) (hn : n ≤ 4096) (hb : Bts w B A n) (hg : w.grownBy w' (some g)) (hp : p ≤ n) (s0 : 0 ≤ s) (s1 : s ≤ 2147483646)
    (hh : w'.heap[g]? = some (.cells (srcCells A n c p s) 120 (0, 0))) : Src w' B g A n c :=
  ⟨hB, hn, hb.grown hg hB, p, s, hp, s0, s1, hh⟩
theorem grown_trans' {a b c : World} {g : Nat} (h : a.grownBy b (some g)) (k : b.grownBy c (some g)) : a.grownBy c (some g) :=
  ⟨k.os.trans h.os, k.tape.trans h.tape, k.output.trans h.output, Nat.le_trans h.size k.size, fun i hi hne => (k.block i (Nat.lt_of_lt_of_le hi h.size) hne).trans (h.block i hi hne)⟩

theorem mid_grown0 {w : World} {g : Nat} (x : Value) (q : Nat) (y : Value) : w.grownBy (((w.setCell ⟨g, 2, none⟩ x).drewN q).setCell ⟨g, 1, none⟩ y) (some g) :=
  grown_set (p := ⟨g, 1, none⟩) (grown_drewN (grown_set (p := ⟨g, 2, none⟩) (World.grownBy.refl w (some g)) rfl x) q) rfl y
theorem mid_grown {w : World} {g : Nat} (x : Value) (q : Nat) (y : Value) (r : Nat) : w.grownBy ((((w.setCell ⟨g, 2, none⟩ x).drewN q).setCell ⟨g, 1, none⟩ y).drewN r) (some g) :=
  grown_drewN (mid_grown0 x q y) r

/-- what a draw answers -/
def Drawn (w : World) (B g : Nat) (A : Option Addr) (n c : Nat) (m : Int) (e : Ending) (w' : World) : Prop :=
  ∃ r : Int, e = .returned (.int .i64 r) ∧ 0 ≤ r ∧ (r < m ∨ r = 0) ∧ Src w' B g A n c ∧ w.grownBy w' (some g)

theorem l01Next_one (B g : Nat) (A : Option Addr) (n c : Nat) (m : Int) (w : World) (h : Src w B g A n c) (hm : m ≤ 1) :
    Calls Try.prog 104 #[.pointer (some ⟨g, 0, none⟩), .int .i64 m] w (Drawn w B g A n c m) := by
  go_enter Try.func104, Try.ntmps104
  go_wp2
  go_ret
  exact ⟨0, rfl, by omega, .inr rfl, h, World.grownBy.refl _ _⟩

set_option maxHeartbeats 2000000 in
theorem l01Next_end (B g : Nat) (A : Option Addr) (n c : Nat) (m : Int) (w : World) (hB : B ≤ g) (hn : n ≤ 4096) (hb : Bts w B A n) (p : Nat) (s : Int) (hp : ¬ p < n) (hp2 : p ≤ n) (s0 : 0 ≤ s) (s1 : s ≤ 2147483646)
    (hh : w.heap[g]? = some (.cells (srcCells A n c p s) 120 (0, 0))) (hm : 1 < m) (hm2 : m ≤ 1000000000000) :
    Calls Try.prog 104 #[.pointer (some ⟨g, 0, none⟩), .int .i64 m] w (Drawn w B g A n c m) := by
  have HH := Lib.hid hh
  obtain ⟨c0, c1, c2, cf⟩ := src_cell0 hh
  have f2 := cf 2
  have HB := Lib.hid hb
  clear hh cf hb
  go_enter Try.func104, Try.ntmps104
  go_wp2
  go_quiet (fail)
  go_wp2
  go_ret
  refine ⟨_, rfl, Int.emod_nonneg _ (by omega), .inl (Int.emod_lt_of_pos _ (by omega)), ?_, ?_⟩
  · exact src_after hB hn HB.out (grown_drewN (grown_set (p := ⟨g, 2, none⟩) (World.grownBy.refl w (some g)) rfl _) _) hp2 (Int.emod_nonneg _ (by decide)) (by omega) (src_set HH.out _)
  · exact grown_drewN (grown_set (p := ⟨g, 2, none⟩) (World.grownBy.refl w (some g)) rfl _) _

set_option maxHeartbeats 4000000 in
theorem l01Next_mid (B g : Nat) (A : Option Addr) (n c : Nat) (m : Int) (w : World) (hB : B ≤ g) (hn : n ≤ 4096) (hb : Bts w B A n) (p : Nat) (s : Int) (hp : p < n) (s0 : 0 ≤ s) (s1 : s ≤ 2147483646)
    (hh : w.heap[g]? = some (.cells (srcCells A n c p s) 120 (0, 0))) (hm : 1 < m) (hm2 : m ≤ 1000000000000) :
    Calls Try.prog 104 #[.pointer (some ⟨g, 0, none⟩), .int .i64 m] w (Drawn w B g A n c m) := by
  have HH := Lib.hid hh
  obtain ⟨c0, c1, c2, cf⟩ := src_cell0 hh
  have f2 := cf 2
  have f1 := cf 1
  have HB := Lib.hid hb
  obtain ⟨ad, rfl, hab, hbytes⟩ := hb (by omega)
  obtain ⟨u, u0, u1, hu⟩ := hbytes p hp
  clear hh cf hb hbytes
  have hne : ∀ i : Nat, (⟨g, i, none⟩ : Addr) ≠ ad.add p := fun i e => by have := congrArg Addr.block e; rw [block_of_add] at this; simp at this; omega
  have hu2 : ∀ x, (w.setCell ⟨g, 2, none⟩ x).cell? (ad.add p) = some (.int .u8 u) := fun x => (World.cell?_setCell_other _ _ _ _ (hne 2)).trans hu
  have hu3 : ∀ x q y, (((w.setCell ⟨g, 2, none⟩ x).drewN q).setCell ⟨g, 1, none⟩ y).cell? (ad.add p) = some (.int .u8 u) := fun x q y => (World.cell?_setCell_other _ _ _ _ (hne 1)).trans (hu2 x)
  clear hne hu
  have i0 : (0 : Int) ≤ (p : Int) := by omega
  have i1 : (p : Int) < (n : Int) := by omega
  by_cases h1 : m ≤ 256
  · by_cases h2 : ((p : Int) + 1) % 2 = 0
    · have h2' : (((p : Int) + 1) % 2 == 0) = true := by simpa using h2
      clear h2
      go_enter Try.func104, Try.ntmps104
      go_wp2
      go_quiet (fail)
      go_wp2
      go_quiet (fail)
      go_wp2
      have e1 : IntKind.i64.wrap ((p : Int) + 1 - 1) = (p : Int) := by rw [IntKind.wrap_i64]; omega
      have e2 : IntKind.i64.wrap (p : Int) = (p : Int) := by rw [IntKind.wrap_i64]; omega
      go_quiet (fail)
      clear e1 e2
      go_wp2
      go_ret
      refine ⟨_, rfl, Int.emod_nonneg _ (by omega), .inl (Int.emod_lt_of_pos _ (by omega)), ?_, ?_⟩
      · exact src_after hB hn HB.out (mid_grown _ _ _ _) (by omega) (Int.emod_nonneg _ (by decide)) (by omega) (src_set1 (w := World.drewN _ _) (src_set HH.out _) (p + 1))
      · exact mid_grown _ _ _ _
    · have h2' : (((p : Int) + 1) % 2 == 0) = false := by simpa using h2
      clear h2
      go_enter Try.func104, Try.ntmps104
      go_wp2
      go_quiet (fail)
      go_wp2
      go_quiet (fail)
      go_wp2
      go_ret
      refine ⟨_, rfl, Int.emod_nonneg _ (by omega), .inl (Int.emod_lt_of_pos _ (by omega)), ?_, ?_⟩
      · exact src_after hB hn HB.out (mid_grown0 _ _ _) (by omega) (Int.emod_nonneg _ (by decide)) (by omega) (src_set1 (w := World.drewN _ _) (src_set HH.out _) (p + 1))
      · exact mid_grown0 _ _ _
  · go_enter Try.func104, Try.ntmps104
    go_wp2
    go_quiet (fail)
    go_wp2
    go_quiet (fail)
    go_wp2
    go_ret
    refine ⟨_, rfl, Int.emod_nonneg _ (by omega), .inl (Int.emod_lt_of_pos _ (by omega)), ?_, ?_⟩
    · exact src_after hB hn HB.out (mid_grown0 _ _ _) (by omega) (Int.emod_nonneg _ (by decide)) (by omega) (src_set1 (w := World.drewN _ _) (src_set HH.out _) (p + 1))
    · exact mid_grown0 _ _ _

theorem l01Next_any (B g : Nat) (A : Option Addr) (n c : Nat) (m : Int) (w : World) (h : Src w B g A n c) (hm : m ≤ 1000000000000) :
    Calls Try.prog 104 #[.pointer (some ⟨g, 0, none⟩), .int .i64 m] w (Drawn w B g A n c m) := by
  by_cases h1 : m ≤ 1
  · exact l01Next_one B g A n c m w h h1
  · obtain ⟨hB, hn, hb, p, s, hp, s0, s1, hh⟩ := h
    by_cases hlt : p < n
    · exact l01Next_mid B g A n c m w hB hn hb p s hlt s0 s1 hh (by omega) hm
    · exact l01Next_end B g A n c m w hB hn hb p s hlt hp s0 s1 hh (by omega) hm

end Go.Proofs.Ytnadcjclihflcaa

namespace Go.Proofs.Ytnadcjclihflcaa
open Go.RowKit

theorem lt_of_heap {w : World} {g : Nat} {o : Obj} (h : w.heap[g]? = some o) : g < w.heap.size := by
  rcases Nat.lt_or_ge g w.heap.size with hlt | hge
  · exact hlt
  · rw [Array.getElem?_eq_none hge] at h; cases h
/-- what the making of a source answers -/
def Sourced (w : World) (B : Nat) (A : Option Addr) (n c : Nat) (e : Ending) (w' : World) : Prop :=
  ∃ g : Nat, e = .returned (.pointer (some ⟨g, 0, none⟩)) ∧ w.heap.size ≤ g ∧ g < w'.heap.size ∧ Src w' B g A n c ∧ Below w.heap.size w w'

set_option maxHeartbeats 4000000 in
theorem l01From_any (B : Nat) (A : Option Addr) (n c : Nat) (w : World) (hb : Bts w B A n) (hB : B ≤ w.heap.size) (hn : n ≤ 4096) :
    Calls Try.prog 81 #[.slice A n c] w (Sourced w B A n c) := by
  have HB := Lib.hid hb
  clear hb
  go_enter Try.func81, Try.ntmps81
  go_wp2
  go_loopw [4] (fun i wr => ∃ (k : Nat) (s : Int), k ≤ n ∧ k ≤ 64 ∧ i = .int .i64 k ∧ 0 ≤ s ∧ s ≤ 2147483646 ∧ wr.heap[w.heap.size]? = some (.cells (srcCells A n c 0 s) 120 (0, 0)) ∧ Below w.heap.size w wr) (fun i _ => 64 - (intOf i).toNat)
  case atStart => exact ⟨0, 30011, Nat.zero_le _, Nat.zero_le _, rfl, by omega, by omega, heap_alloc_new w _, (Below.refl _ _).alloc (Nat.le_refl _) _⟩
  case round =>
    obtain ⟨k, s, hk, hk2, rfl, s0, s1, hh, hbl⟩ := hrel
    have hsz := hbl.size
    have HH := Lib.hid hh
    have HL := Lib.hid hbl
    obtain ⟨c0, c1, c2, cf⟩ := src_cell0 hh
    have f2 := cf 2
    clear hh hbl cf c0 c1
    by_cases h1 : k < n
    · by_cases h2 : k < 64
      · obtain ⟨ad, rfl, hab, hbytes⟩ := HB.out (by omega)
        obtain ⟨u, u0, u1, hu⟩ := hbytes k h1
        clear hbytes
        have hu2 : wr.cell? (ad.add k) = some (.int .u8 u) := (HL.out.cell (by rw [block_of_add]; omega)).trans hu
        clear hu
        have i0 : (0 : Int) ≤ (k : Int) := by omega
        have i1 : (k : Int) < (n : Int) := by omega
        have e1 : IntKind.i64.wrap (s * 67) = s * 67 := by rw [IntKind.wrap_i64]; omega
        have e2 : IntKind.i64.wrap (s * 67 + u) = s * 67 + u := by rw [IntKind.wrap_i64]; omega
        have e3 : (s * 67 + u).tmod 2147483647 = (s * 67 + u) % 2147483647 := Int.tmod_eq_emod_of_nonneg (by omega)
        have e4 : IntKind.i64.wrap u = u := by rw [IntKind.wrap_i64]; omega
        go_wp2
        go_region
        clear e1 e2 e3 e4
        go_wp2
        go_roundw
        case rel =>
          refine ⟨k + 1, (s * 67 + u) % 2147483647, by omega, by omega, by go_num, Int.emod_nonneg _ (by decide), by omega, ?_, ?_⟩
          · exact src_set HH.out _
          · exact (HL.out.setCell (p := ⟨w.heap.size, 2, none⟩) (Nat.le_refl _) _).drew
        case measure => simp [intOf]; omega
      · have HS : Hid (Src wr B w.heap.size A n c) := Lib.hid ⟨hB, hn, HB.out.keep (fun p hp => HL.out.cell (by omega)), 0, s, Nat.zero_le _, s0, s1, HH.out⟩
        have HG : Hid (w.heap.size < wr.heap.size) := Lib.hid (lt_of_heap HH.out)
        go_wp2
        go_ret
        exact ⟨w.heap.size, rfl, Nat.le_refl _, HG.out, HS.out, HL.out⟩
    · have HS : Hid (Src wr B w.heap.size A n c) := Lib.hid ⟨hB, hn, HB.out.keep (fun p hp => HL.out.cell (by omega)), 0, s, Nat.zero_le _, s0, s1, HH.out⟩
      have HG : Hid (w.heap.size < wr.heap.size) := Lib.hid (lt_of_heap HH.out)
      go_wp2
      go_ret
      exact ⟨w.heap.size, rfl, Nat.le_refl _, HG.out, HS.out, HL.out⟩

/-- what picking answers -/
def Picked (w : World) (B g : Nat) (A : Option Addr) (n c : Nat) (xs : List Int) (e : Ending) (w' : World) : Prop :=
  ∃ r : Int, e = .returned (.int .i64 r) ∧ r ∈ xs ∧ Src w' B g A n c ∧ w.grownBy w' (some g)

theorem l01Pick_any (B g : Nat) (A : Option Addr) (n c : Nat) (D : Option Addr) (m d : Nat) (xs : List Int) (w : World) (h : Src w B g A n c) (hx : Ints w w.heap.size D m xs) (hg : ∀ ad, D = some ad → ad.block ≠ g) (hm : 0 < m) (hm2 : m ≤ 1000) :
    Calls Try.prog 105 #[.pointer (some ⟨g, 0, none⟩), .slice D m d] w (Picked w B g A n c xs) := by
  have HX := Lib.hid hx
  have HG := Lib.hid hg
  clear hx hg
  go_enter Try.func105, Try.ntmps105
  go_wp2_with fail
  refine (l01Next_any B g A n c _ _ h (by omega)).mono ?_
  rintro e w1 ⟨r, rfl, r0, r1, hs, hgr⟩
  obtain ⟨k, rfl⟩ := Int.eq_ofNat_of_zero_le r0
  have hk : k < m := by omega
  obtain ⟨ad, v, rfl, hab, hv, hc⟩ := HX.out.at_ hk
  have hc1 : w1.cell? (ad.add k) = some (.int .i64 v) := hgr.cell hc (by rw [block_of_add]; intro e; injection e with e; exact HG.out ad rfl e)
  have HV := Lib.hid (List.mem_of_getElem? hv)
  clear hv hc r1
  go_wp2
  go_ret
  exact ⟨v, rfl, HV.out, hs, hgr⟩

end Go.Proofs.Ytnadcjclihflcaa

namespace Go.Proofs.Ytnadcjclihflcaa
open Go.RowKit

theorem Src.on {w w' : World} {B g n c : Nat} {A : Option Addr} (h : Src w B g A n c) (hb : Below w.heap.size w w') (hB : B ≤ w.heap.size) : Src w' B g A n c := by
  obtain ⟨h1, h2, h3, p, s, hp, s0, s1, hh⟩ := h
  exact ⟨h1, h2, h3.keep (fun q hq => hb.cell (by omega)), p, s, hp, s0, s1, (hb.block g (lt_of_heap hh)).trans hh⟩
theorem Src.lt {w : World} {B g n c : Nat} {A : Option Addr} (h : Src w B g A n c) : g < w.heap.size := by
  obtain ⟨_, _, _, p, s, _, _, _, hh⟩ := h
  exact lt_of_heap hh
theorem ints_new (w : World) (xs : List Int) (t : TypeId) : Ints (w.alloc (.cells (xs.map (Value.int .i64)).toArray t)) (w.alloc (.cells (xs.map (Value.int .i64)).toArray t)).heap.size (some ⟨w.heap.size, 0, none⟩) xs.length xs := by
  refine ⟨rfl, fun _ => ⟨_, rfl, by simp, fun j v hv => ?_⟩⟩
  have e : (⟨w.heap.size, 0, none⟩ : Addr).add j = ⟨w.heap.size, j, none⟩ := by
    unfold Addr.add
    split
    · next h0 => subst h0; rfl
    · simp
  rw [e, World.cell?_alloc_at _ _ _ _ rfl, List.getElem?_toArray, List.getElem?_map, hv]
  rfl

/-- what the draw of two small numbers answers -/
def DrawnTwo (w : World) (lo hi lo2 hi2 : Int) (e : Ending) (w' : World) : Prop :=
  ∃ n k : Int, e = .returned (.tuple #[.int .i64 n, .int .i64 k]) ∧ lo ≤ n ∧ n ≤ hi ∧ lo2 ≤ k ∧ k ≤ hi2 ∧ Below w.heap.size w w'

end Go.Proofs.Ytnadcjclihflcaa

namespace Go.Proofs.Ytnadcjclihflcaa
open Go.RowKit

def listI (xs : List Int) : List Value := xs.map (Value.int .i64)
theorem listI_snoc (xs : List Int) (v : Int) : listI xs ++ [.int .i64 v] = listI (xs ++ [v]) := by simp [listI]
theorem row_base {w : World} {base t n : Nat} {v : Value} {xs : List Value} (h : w.ownsRow base t 1 v n xs) : ∀ k, v.ownBlock = some k → base ≤ k := by
  intro k hk
  rcases h.2 with ⟨rfl, _⟩ | ⟨g, cap, cur, rfl, hb, _⟩
  · cases hk
  · have : g = k := by simpa [Value.ownBlock] using hk
    omega
theorem row_apart {w w' : World} {base t n g : Nat} {v : Value} {xs : List Value} (h : w.ownsRow base t 1 v n xs) (hg : w.grownBy w' (some g)) (hlt : g < base) : w'.ownsRow base t 1 v n xs :=
  h.kept hg (by
    rcases hv : v.ownBlock with _ | k
    · exact .inl rfl
    · refine .inr (fun e => ?_)
      have := row_base h k hv
      injection e with e
      omega)
theorem row_empty {w : World} {base t : Nat} (hb : base ≤ w.heap.size) : (w.alloc (.cells #[] t)).ownsRow base t 1 (.slice (some ⟨w.heap.size, 0, none⟩) 0 0) 0 [] :=
  ⟨rfl, .inr ⟨w.heap.size, 0, #[], rfl, hb, heap_alloc_new w _, Nat.le_refl _, by unfold maxLen; omega, rfl, rfl⟩⟩
theorem row_ints {w : World} {base t n : Nat} {v : Value} {xs : List Int} (h : w.ownsRow base t 1 v n (listI xs)) (hl : xs.length = n) : ∃ A c, v = .slice A n c ∧ Own w base w.heap.size A n xs := by
  rcases h.2 with ⟨rfl, rfl⟩ | ⟨g, cap, cur, rfl, hb, hg, hnc, hcm, hcs, htk⟩
  · obtain rfl := List.eq_nil_of_length_eq_zero hl
    exact ⟨none, 0, rfl, Own.nil _ (Nat.le_refl _)⟩
  · have hlt : g < w.heap.size := lt_of_heap hg
    refine ⟨_, _, rfl, hl, Nat.le_refl _, fun _ => ⟨_, rfl, hb, hlt, fun j u hu => ?_⟩⟩
    have hc := h.cells (g := g) rfl j (.int .i64 u) (by unfold listI; rw [List.getElem?_map, hu]; rfl)
    refine ⟨?_, hc⟩
    unfold Addr.add
    split <;> simp [World.frozen?, hg]
theorem Src.apart {w w' : World} {B g n c : Nat} {A : Option Addr} {row : Option Nat} (h : Src w B g A n c) (hg : w.grownBy w' row) (hr : ∀ k, row = some k → g < k) : Src w' B g A n c := by
  obtain ⟨h1, h2, h3, p, s, hp, s0, s1, hh⟩ := h
  refine ⟨h1, h2, fun hn => ?_, p, s, hp, s0, s1, (hg.block g (lt_of_heap hh) (fun e => by have := hr g e.symm; omega)).trans hh⟩
  obtain ⟨ad, e, hb, hc⟩ := h3 hn
  refine ⟨ad, e, hb, fun j hj => ?_⟩
  obtain ⟨u, u0, u1, hu⟩ := hc j hj
  exact ⟨u, u0, u1, hg.cell hu (by rw [block_of_add]; intro e; have := hr _ e.symm; omega)⟩

/-- what the draw of a list and a small number answers -/
def DrawnList (w : World) (e : Ending) (w' : World) : Prop :=
  ∃ A n c xs m, e = .returned (.tuple #[.slice A n c, .int .i64 m]) ∧ Ints w' w'.heap.size A n xs ∧ n ≤ 1000 ∧ -1000 ≤ m ∧ m ≤ 1000 ∧ Below w.heap.size w w'

end Go.Proofs.Ytnadcjclihflcaa

namespace Go.Proofs.Ytnadcjclihflcaa
open Go.RowKit

theorem grown_alloc {a w : World} {row : Option Nat} (h : a.grownBy w row) (o : Obj) : a.grownBy (w.alloc o) row :=
  ⟨h.os, h.tape, h.output, Nat.le_trans h.size (by simp), fun i hi hne => (Below.heap_alloc w o i (Nat.lt_of_lt_of_le hi h.size)).trans (h.block i hi hne)⟩
theorem Src.alloc {w : World} {B g n c : Nat} {A : Option Addr} (h : Src w B g A n c) (o : Obj) : Src (w.alloc o) B g A n c :=
  h.on ((Below.refl w.heap.size w).alloc (Nat.le_refl _) o) (by have := h.lt; have := h.1; omega)

/-- a store into a block that is newer than the first world -/
theorem grown_own {w a b : World} {row row' : Option Nat} (h : w.grownBy a row) (k : a.grownBy b row') (hr : ∀ q, row' = some q → w.heap.size ≤ q) : w.grownBy b row :=
  ⟨k.os.trans h.os, k.tape.trans h.tape, k.output.trans h.output, Nat.le_trans h.size k.size, fun i hi hne => (k.block i (Nat.lt_of_lt_of_le hi h.size) (fun e => by have := hr i e.symm; omega)).trans (h.block i hi hne)⟩

/-- what a draw of a number between two others answers -/
def DrawnIn (w : World) (B g : Nat) (A : Option Addr) (n c : Nat) (lo hi : Int) (e : Ending) (w' : World) : Prop :=
  ∃ r : Int, e = .returned (.int .i64 r) ∧ lo ≤ r ∧ r ≤ hi ∧ Src w' B g A n c ∧ w.grownBy w' (some g)

theorem row_cap {w : World} {base t n m c : Nat} {A : Option Addr} {xs : List Value} (h : w.ownsRow base t 1 (.slice A m c) n xs) : n ≤ c := by
  rcases h.2 with ⟨_, rfl⟩ | ⟨g, cap, cur, hv, _, _, hc, _⟩
  · exact Nat.zero_le _
  · injection hv with _ _ e
    omega
def lenOfV : Value → Nat
  | .slice _ n _ => n
  | _ => 0

/-- what a draw of a list answers -/
def DrawnOwn (w : World) (B g : Nat) (A : Option Addr) (n c : Nat) (e : Ending) (w' : World) : Prop :=
  ∃ A' m c' xs, e = .returned (.slice A' m c') ∧ Own w' w.heap.size w'.heap.size A' m xs ∧ m ≤ 101 ∧ m ≤ c' ∧ Src w' B g A n c ∧ w.grownBy w' (some g)

end Go.Proofs.Ytnadcjclihflcaa

namespace Go.Proofs.Ytnadcjclihflcaa
open Go.RowKit

/-- a slice of bytes as the shell of a row hands it over -/
theorem bts_of {w : World} {a : Option Addr} {len cap : Nat} {zs : List Int}
    (h : (a = none ∧ len = 0 ∧ cap = 0 ∧ zs = []) ∨ ∃ x, a = some x ∧ len ≤ cap ∧ cap ≤ maxLen ∧ zs.length = cap ∧ (∀ i, i < zs.length → w.cell? (x.add i) = some (.int .u8 (zs.getD i 0))) ∧ ∀ n ∈ zs, (Lit.int .u8 n).wf = true) :
    Bts w w.heap.size a len := by
  rcases h with ⟨rfl, rfl, rfl, rfl⟩ | ⟨x, rfl, hl, _, hz, hc, hw⟩
  · exact fun h => absurd h (by omega)
  · intro h0
    refine ⟨x, rfl, ?_, fun j hj => ?_⟩
    · have := World.block_lt_of_cell? _ _ (hc 0 (by omega))
      rwa [block_of_add] at this
    · obtain ⟨b0, b1⟩ := bounds_u8 (hw (zs.getD j 0) (by rw [List.getD_eq_getElem?_getD, List.getElem?_eq_getElem (by omega)]; exact List.getElem_mem _))
      exact ⟨_, b0, b1, hc j (by omega)⟩

theorem big_any (A : Option Addr) (n c : Nat) (w : World) :
    Calls Try.prog 19 #[.slice A n c] w fun e w' => e = .returned (.bool (decide (4096 < (n : Int)))) ∧ w = w' := by
  go_enter Try.func19, Try.ntmps19
  go_wp2
  go_ret
  exact ⟨rfl, rfl⟩

theorem likeInts_true (A A' : Option Addr) (n c c' : Nat) (xs : List Int) (w : World) (h : Ints w w.heap.size A n xs) (h' : Ints w w.heap.size A' n xs) (hn : n ≤ 1048576) :
    Calls Try.prog 33 #[.slice A n c, .slice A' n c'] w fun e w' => e = .returned (.bool true) ∧ Below w.heap.size w w' := by
  go_enter Try.func33, Try.ntmps33
  go_wp2
  go_loopw [5] (fun i wr => ∃ k : Nat, k ≤ n ∧ i = .int .i64 k ∧ Below w.heap.size w wr) (fun i _ => n - (intOf i).toNat)
  case atStart => exact ⟨0, Nat.zero_le _, rfl, Below.refl _ _⟩
  case round =>
    obtain ⟨k, hk, rfl, hb⟩ := hrel
    by_cases hlt : k < n
    · obtain ⟨ad, v, rfl, hab, hv, hc⟩ := (h.below hb).at_ hlt
      obtain ⟨ad', v', rfl, hab', hv', hc'⟩ := (h'.below hb).at_ hlt
      obtain rfl : v = v' := by rw [hv] at hv'; injection hv'
      clear hv hv'
      go_wp2
      go_quiet (fail)
      go_wp2
      go_roundw
      case rel => exact ⟨k + 1, by omega, by go_num, below_drewN hb _⟩
      case measure => simp [intOf]; omega
    · go_wp2
      go_ret
      exact ⟨rfl, hb⟩

end Go.Proofs.Ytnadcjclihflcaa
