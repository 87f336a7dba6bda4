/- The draws for ProductOf, SumOf, ListText and PowerOf. -/
import Derived.Test.YtaekfdgebkdooaaDoorDraw
namespace Go.Proofs.YtaekfdgebkdooaaDoor
open Go.RowKit

/-- what the draw of a list answers, its source made anew -/
def DrawnL (w : World) (e : Ending) (w' : World) : Prop :=
  ∃ A m c xs, e = .returned (.slice A m c) ∧ Own w' w.heap.size w'.heap.size A m xs ∧ m ≤ 101 ∧ m ≤ c ∧ Below w.heap.size w w'

theorem drawText_any (B : Nat) (A : Option Addr) (n c : Nat) (w : World) (hb : Bts w B A n) (hB : B ≤ w.heap.size) (hn : n ≤ 4096) :
    Calls Tryd.prog 9 #[.slice A n c] w (DrawnL w) := by
  have HB := Lib.hid hb
  clear hb
  go_enter Tryd.func9, Tryd.ntmps9
  go_wp2_with fail
  refine (l01From_any B A n c _ HB.out hB hn).mono ?_
  rintro e w1 ⟨g, rfl, hg, hg1, h1, b1⟩
  have s1 := b1.size
  go_wp2_with fail
  refine (drawList_any B g A n c _ h1).mono ?_
  rintro e w2 ⟨D, m, d, xs, rfl, ho, hm, hmd, h2, g2⟩
  have b2 := below_grown b1 g2 (fun q e => by injection e with e; omega)
  have HO := Lib.hid (ho.more s1 (Nat.le_refl _) (Nat.le_refl _))
  clear ho b1 h1
  go_wp2
  go_ret
  exact ⟨D, m, d, xs, rfl, HO.out, hm, hmd, b2⟩

end Go.Proofs.YtaekfdgebkdooaaDoor
