/- The draw for ReadList. -/
import Derived.Test.YtaekfdgebkdooaaDoorDamage
namespace Go.Proofs.YtaekfdgebkdooaaDoor
open Go.RowKit

/-- what the draw of a text answers, its source made anew -/
def DrawnStr (w : World) (m : Nat) (e : Ending) (w' : World) : Prop :=
  ∃ t : ByteArray, e = .returned (.string t) ∧ t.size ≤ m ∧ Below w.heap.size w w'

set_option maxHeartbeats 1000000 in
theorem drawRead_any (B : Nat) (A : Option Addr) (n c : Nat) (w : World) (hb : Bts w B A n) (hB : B ≤ w.heap.size) (hn : n ≤ 4096) :
    Calls Tryd.prog 12 #[.slice A n c] w (DrawnStr w 1401) := by
  have HB := Lib.hid hb
  clear hb
  go_enter Tryd.func12, Tryd.ntmps12
  go_wp2_with fail
  refine (l01From_any B A n c _ HB.out hB hn).mono ?_
  rintro e w1 ⟨g, rfl, hg, hg1, h1, b1⟩
  have s1 := b1.size
  go_wp2_with fail
  refine (drawList_any B g A n c _ h1).mono ?_
  rintro e w2 ⟨D, m, d, xs, rfl, ho, hm, hmd, h2, g2⟩
  have b2 := below_grown b1 g2 (fun q e => by injection e with e; omega)
  have hi := ho.ints
  clear ho b1 h1 g2
  go_wp2_with fail
  refine (specListText_any _ _ _ xs _ hi (by omega)).mono ?_
  rintro e w3 ⟨t, rfl, ht, htm, b3⟩
  have h3 := h2.on b3 (by have := b2.size; omega)
  have b3' := below_trans' b2 b3
  clear b2 b3 h2 hi ht
  go_wp2_with fail
  refine (l01Next_any B g A n c _ _ h3 (by omega)).mono ?_
  rintro e w4 ⟨q, rfl, q0, q1, h4, g4⟩
  have b4 := below_grown b3' g4 (fun q e => by injection e with e; omega)
  clear h3 b3' g4 q1
  rcases k0 : (q == 0) with _ | _
  · go_wp2
    go_ret
    exact ⟨t, rfl, by omega, b4⟩
  · go_wp2_with fail
    refine (damage_any B g A n c t _ h4 (by omega)).mono ?_
    rintro e w5 ⟨u, rfl, hu, h5, g5⟩
    have b5 := below_grown b4 g5 (fun q e => by injection e with e; omega)
    clear b4 g5 h4 h5
    go_wp2
    go_ret
    exact ⟨u, rfl, by omega, b5⟩

end Go.Proofs.YtaekfdgebkdooaaDoor
