/- The draw for ChooseOf. -/
import Derived.Test.YtnonmjllopcaeaaDraw2
namespace Go.Proofs.Ytnonmjllopcaeaa
open Go.RowKit

theorem Src.on {w w' : World} {B g n c : Nat} {A : Option Addr} (h : Src w B g A n c) (hb : Below w.heap.size w w') (hB : B ≤ w.heap.size) : Src w' B g A n c := by
  obtain ⟨h1, h2, h3, p, s, hp, s0, s1, hh⟩ := h
  exact ⟨h1, h2, h3.keep (fun q hq => hb.cell (by omega)), p, s, hp, s0, s1, (hb.block g (lt_of_heap hh)).trans hh⟩
theorem Src.lt {w : World} {B g n c : Nat} {A : Option Addr} (h : Src w B g A n c) : g < w.heap.size := by
  obtain ⟨_, _, _, p, s, _, _, _, hh⟩ := h
  exact lt_of_heap hh
theorem ints_new (w : World) (xs : List Int) (t : TypeId) : Ints (w.alloc (.cells (xs.map (Value.int .i64)).toArray t)) (w.alloc (.cells (xs.map (Value.int .i64)).toArray t)).heap.size (some ⟨w.heap.size, 0, none⟩) xs.length xs := by
  refine ⟨rfl, fun _ => ⟨_, rfl, by simp, fun j v hv => ?_⟩⟩
  have e : (⟨w.heap.size, 0, none⟩ : Addr).add j = ⟨w.heap.size, j, none⟩ := by
    unfold Addr.add
    split
    · next h0 => subst h0; rfl
    · simp
  rw [e, World.cell?_alloc_at _ _ _ _ rfl, List.getElem?_toArray, List.getElem?_map, hv]
  rfl

/-- what the draw of two small numbers answers -/
def DrawnTwo (w : World) (lo hi lo2 hi2 : Int) (e : Ending) (w' : World) : Prop :=
  ∃ n k : Int, e = .returned (.tuple #[.int .i64 n, .int .i64 k]) ∧ lo ≤ n ∧ n ≤ hi ∧ lo2 ≤ k ∧ k ≤ hi2 ∧ Below w.heap.size w w'

set_option maxHeartbeats 1000000 in
theorem drawChoose_any (B : Nat) (A : Option Addr) (n c : Nat) (w : World) (hb : Bts w B A n) (hB : B ≤ w.heap.size) (hn : n ≤ 4096) :
    Calls Try.prog 18 #[.slice A n c] w (DrawnTwo w (-1) 61 (-100) 100) := by
  have HB := Lib.hid hb
  clear hb
  go_enter Try.func18, Try.ntmps18
  go_wp2_with fail
  refine (l01From_any B A n c _ HB.out hB hn).mono ?_
  rintro e w1 ⟨g, rfl, hg, hg1, h1, b1⟩
  have s1 := b1.size
  go_wp2_with fail
  refine (l01Next_any B g A n c _ _ h1 (by omega)).mono ?_
  rintro e w2 ⟨r, rfl, r0, r1, h2, gr2⟩
  have b2 := below_grown b1 gr2 (fun q e => by injection e with e; omega)
  have s2 := b2.size
  clear b1 gr2 h1
  go_wp2_with fail
  refine (l01Next_any B g A n c _ _ h2 (by omega)).mono ?_
  rintro e w3 ⟨q, rfl, q0, q1, h3, gr3⟩
  have b3 := below_grown b2 gr3 (fun q e => by injection e with e; omega)
  have s3 := b3.size
  clear b2 gr3 h2
  have HI := Lib.hid (ints_new w3 [r, q, 60, 61, -1] 2)
  have HS := Lib.hid (h3.on ((Below.refl w3.heap.size w3).alloc (Nat.le_refl _) (.cells ([r, q, 60, 61, -1].map (Value.int .i64)).toArray 2)) (by omega))
  have HB3 := Lib.hid (b3.alloc s3 (.cells ([r, q, 60, 61, -1].map (Value.int .i64)).toArray 2))
  have hgl := h3.lt
  clear b3 h3
  go_wp2_with fail
  refine (l01Pick_any B g A n c _ _ _ _ _ HS.out HI.out (fun ad e => by injection e with e; subst e; simp; omega) (by simp) (by simp)).mono ?_
  rintro e w4 ⟨x, rfl, hx, h4, gr4⟩
  have b4 := below_grown HB3.out gr4 (fun q e => by injection e with e; omega)
  have s4 := b4.size
  have x0 : -1 ≤ x ∧ x ≤ 61 := by
    simp only [List.mem_cons, List.mem_nil_iff, or_false] at hx
    omega
  obtain ⟨x0, x1⟩ := x0
  clear HI HS HB3 gr4 hx
  go_wp2_with fail
  all_goals
    refine (l01Next_any B g A n c _ _ h4 (by omega)).mono ?_
    rintro e w5 ⟨y, rfl, y0, y1, h5, gr5⟩
    have b5 := below_grown b4 gr5 (fun q e => by injection e with e; omega)
    have s5 := b5.size
    have y2 : y ≤ 63 := by omega
    clear b4 gr5 h4 y1
    go_wp2_with fail
    refine (l01Next_any B g A n c _ _ h5 (by omega)).mono ?_
    rintro e w6 ⟨z, rfl, z0, z1, h6, gr6⟩
    have b6 := below_grown b5 gr6 (fun q e => by injection e with e; omega)
    have z2 : z ≤ 19 := by omega
    clear b5 gr6 h5 z1 h6
    go_wp2
    go_ret2
    exact ⟨x, _, rfl, x0, x1, by omega, by omega, b6⟩

end Go.Proofs.Ytnonmjllopcaeaa
