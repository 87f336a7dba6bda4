/- The source of draws is made; one of some numbers is picked. -/
import Derived.Test.YtlgaocjcfdfhmaaDraw
import Derived.RegionTactic
import Derived.BigRegion
namespace Go.Proofs.Ytlgaocjcfdfhmaa
open Go.RowKit

theorem lt_of_heap {w : World} {g : Nat} {o : Obj} (h : w.heap[g]? = some o) : g < w.heap.size := by
  rcases Nat.lt_or_ge g w.heap.size with hlt | hge
  · exact hlt
  · rw [Array.getElem?_eq_none hge] at h; cases h
/-- what the making of a source answers -/
def Sourced (w : World) (B : Nat) (A : Option Addr) (n c : Nat) (e : Ending) (w' : World) : Prop :=
  ∃ g : Nat, e = .returned (.pointer (some ⟨g, 0, none⟩)) ∧ w.heap.size ≤ g ∧ g < w'.heap.size ∧ Src w' B g A n c ∧ Below w.heap.size w w'

set_option maxHeartbeats 4000000 in
theorem l01From_any (B : Nat) (A : Option Addr) (n c : Nat) (w : World) (hb : Bts w B A n) (hB : B ≤ w.heap.size) (hn : n ≤ 4096) :
    Calls Try.prog 47 #[.slice A n c] w (Sourced w B A n c) := by
  have HB := Lib.hid hb
  clear hb
  go_enter Try.func47, Try.ntmps47
  go_wp2
  go_loopw [4] (fun i wr => ∃ (k : Nat) (s : Int), k ≤ n ∧ k ≤ 64 ∧ i = .int .i64 k ∧ 0 ≤ s ∧ s ≤ 2147483646 ∧ wr.heap[w.heap.size]? = some (.cells (srcCells A n c 0 s) 75 (0, 0)) ∧ Below w.heap.size w wr) (fun i _ => 64 - (intOf i).toNat)
  case atStart => exact ⟨0, 30011, Nat.zero_le _, Nat.zero_le _, rfl, by omega, by omega, heap_alloc_new w _, (Below.refl _ _).alloc (Nat.le_refl _) _⟩
  case round =>
    obtain ⟨k, s, hk, hk2, rfl, s0, s1, hh, hbl⟩ := hrel
    have hsz := hbl.size
    have HH := Lib.hid hh
    have HL := Lib.hid hbl
    obtain ⟨c0, c1, c2, cf⟩ := src_cell0 hh
    have f2 := cf 2
    clear hh hbl cf c0 c1
    by_cases h1 : k < n
    · by_cases h2 : k < 64
      · obtain ⟨ad, rfl, hab, hbytes⟩ := HB.out (by omega)
        obtain ⟨u, u0, u1, hu⟩ := hbytes k h1
        clear hbytes
        have hu2 : wr.cell? (ad.add k) = some (.int .u8 u) := (HL.out.cell (by rw [block_of_add]; omega)).trans hu
        clear hu
        have i0 : (0 : Int) ≤ (k : Int) := by omega
        have i1 : (k : Int) < (n : Int) := by omega
        have e1 : IntKind.i64.wrap (s * 67) = s * 67 := by rw [IntKind.wrap_i64]; omega
        have e2 : IntKind.i64.wrap (s * 67 + u) = s * 67 + u := by rw [IntKind.wrap_i64]; omega
        have e3 : (s * 67 + u).tmod 2147483647 = (s * 67 + u) % 2147483647 := Int.tmod_eq_emod_of_nonneg (by omega)
        have e4 : IntKind.i64.wrap u = u := by rw [IntKind.wrap_i64]; omega
        go_wp2
        go_region
        clear e1 e2 e3 e4
        go_wp2
        go_roundw
        case rel =>
          refine ⟨k + 1, (s * 67 + u) % 2147483647, by omega, by omega, by go_num, Int.emod_nonneg _ (by decide), by omega, ?_, ?_⟩
          · exact src_set HH.out _
          · exact (HL.out.setCell (p := ⟨w.heap.size, 2, none⟩) (Nat.le_refl _) _).drew
        case measure => simp [intOf]; omega
      · have HS : Hid (Src wr B w.heap.size A n c) := Lib.hid ⟨hB, hn, HB.out.keep (fun p hp => HL.out.cell (by omega)), 0, s, Nat.zero_le _, s0, s1, HH.out⟩
        have HG : Hid (w.heap.size < wr.heap.size) := Lib.hid (lt_of_heap HH.out)
        go_wp2
        go_ret
        exact ⟨w.heap.size, rfl, Nat.le_refl _, HG.out, HS.out, HL.out⟩
    · have HS : Hid (Src wr B w.heap.size A n c) := Lib.hid ⟨hB, hn, HB.out.keep (fun p hp => HL.out.cell (by omega)), 0, s, Nat.zero_le _, s0, s1, HH.out⟩
      have HG : Hid (w.heap.size < wr.heap.size) := Lib.hid (lt_of_heap HH.out)
      go_wp2
      go_ret
      exact ⟨w.heap.size, rfl, Nat.le_refl _, HG.out, HS.out, HL.out⟩

/-- what picking answers -/
def Picked (w : World) (B g : Nat) (A : Option Addr) (n c : Nat) (xs : List Int) (e : Ending) (w' : World) : Prop :=
  ∃ r : Int, e = .returned (.int .i64 r) ∧ r ∈ xs ∧ Src w' B g A n c ∧ w.grownBy w' (some g)

theorem l01Pick_any (B g : Nat) (A : Option Addr) (n c : Nat) (D : Option Addr) (m d : Nat) (xs : List Int) (w : World) (h : Src w B g A n c) (hx : Ints w w.heap.size D m xs) (hg : ∀ ad, D = some ad → ad.block ≠ g) (hm : 0 < m) (hm2 : m ≤ 1000) :
    Calls Try.prog 81 #[.pointer (some ⟨g, 0, none⟩), .slice D m d] w (Picked w B g A n c xs) := by
  have HX := Lib.hid hx
  have HG := Lib.hid hg
  clear hx hg
  go_enter Try.func81, Try.ntmps81
  go_wp2_with fail
  refine (l01Next_any B g A n c _ _ h (by omega)).mono ?_
  rintro e w1 ⟨r, rfl, r0, r1, hs, hgr⟩
  obtain ⟨k, rfl⟩ := Int.eq_ofNat_of_zero_le r0
  have hk : k < m := by omega
  obtain ⟨ad, v, rfl, hab, hv, hc⟩ := HX.out.at_ hk
  have hc1 : w1.cell? (ad.add k) = some (.int .i64 v) := hgr.cell hc (by rw [block_of_add]; intro e; injection e with e; exact HG.out ad rfl e)
  have HV := Lib.hid (List.mem_of_getElem? hv)
  clear hv hc r1
  go_wp2
  go_ret
  exact ⟨v, rfl, HV.out, hs, hgr⟩

end Go.Proofs.Ytlgaocjcfdfhmaa
