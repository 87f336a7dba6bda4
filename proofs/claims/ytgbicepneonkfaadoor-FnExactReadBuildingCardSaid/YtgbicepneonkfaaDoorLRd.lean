/- The law of ReadBuilding. -/
import Derived.Test.YtgbicepneonkfaaDoorRdP
import Derived.Test.YtgbicepneonkfaaDoorBldI
namespace Go.Proofs.YtgbicepneonkfaaDoor
open Go Go.RowKit

set_option maxRecDepth 100000 in
set_option maxHeartbeats 4000000 in
theorem lawReadBuilding_any (s : ByteArray) (w : World) (env : Env Tryd.prog w) :
    Calls Tryd.prog 7 #[.string s] w fun e w' => e = .returned (.bool true) ∧ Below w.heap.size w w' := by
  have HE := Lib.hid env
  clear env
  by_cases hs : s.size ≤ 1048576
  rotate_left
  · go_enter Tryd.func7, Tryd.ntmps7
    go_wp2
    go_ret
    exact ⟨rfl, Below.refl _ _⟩
  obtain ⟨cc, hcc⟩ : ∃ cc, rdC s.data.toList = cc := ⟨_, rfl⟩
  obtain ⟨P, hP⟩ : ∃ P, rdP s.data.toList = P := ⟨_, rfl⟩
  obtain ⟨D, hD⟩ : ∃ D, rdD s.data.toList = D := ⟨_, rfl⟩
  have H1 := Lib.hid (specReadBuilding_any s)
  have H2 := Lib.hid (readBuilding_any s)
  rw [hcc, hP, hD] at H1 H2
  have dc : (cc != cc) = false := by simp
  clear hcc hP hD
  go_enter Tryd.func7, Tryd.ntmps7
  go_wp2_with fail
  refine (H1.out _ hs).mono ?_
  rintro e w1 ⟨Aw, nw, cw, Bw, kw, dw, rfl, ow, hnw, hkw, b1⟩
  have bA := (Below.refl w1.heap.size w1).alloc (Nat.le_refl _) (.cells #[.slice Aw nw cw, .slice Bw kw dw] 27)
  have X1 := Lib.hid (Cell2.new w1 27 (.slice Aw nw cw) (.slice Bw kw dw))
  have W1 := Lib.hid (ow.below bA)
  have C1 := Lib.hid (below_trans' b1 bA)
  have s1 := b1.size
  clear bA b1 ow
  go_wp2_with fail
  refine (H2.out _ hs (HE.out.on C1.out)).mono ?_
  rintro e w2 ⟨Ag, ng, cg, Bg, kg, dg, rfl, og, hng, hkg, b2⟩
  obtain rfl : nw = ng := by rw [← og.ps.len, ← W1.out.ps.len]
  obtain rfl : kw = kg := by rw [← og.ds.len, ← W1.out.ds.len]
  have s2 := b2.size
  rw [World.size_alloc] at og s2
  have bA := (Below.refl w2.heap.size w2).alloc (Nat.le_refl _) (.cells #[.slice Ag nw cg, .slice Bg kw dg] 27)
  have X2 := Lib.hid ((X1.out.on b2).on bA)
  have W2 := Lib.hid ((W1.out.below b2).below bA)
  have C2 := Lib.hid (below_trans' (below_trans' C1.out b2) bA)
  have G2 := Lib.hid (Cell2.new w2 27 (.slice Ag nw cg) (.slice Bg kw dg))
  have Y2 := Lib.hid (og.below bA)
  obtain ⟨q0, q1⟩ := X2.out.cells
  obtain ⟨g0, g1⟩ := G2.out.cells
  clear bA b2 og X1 W1 C1
  go_wp2_with fail
  refine (eqBuilding_true _ _ _ _ _ _ _ _ _ _ P D _ Y2.out.bld W2.out.bld (by omega) (by omega)).mono ?_
  rintro e w3 ⟨rfl, b3⟩
  have X3 := Lib.hid (X2.out.on b3)
  have W3 := Lib.hid (W2.out.below b3)
  have C3 := Lib.hid (below_trans' C2.out b3)
  have G3 := Lib.hid (G2.out.on b3)
  have Y3 := Lib.hid (Y2.out.below b3)
  clear b3 q0 q1 g0 g1 X2 W2 C2 G2 Y2
  obtain ⟨q0, q1⟩ := X3.out.cells
  obtain ⟨g0, g1⟩ := G3.out.cells
  go_wp2_with fail
  refine (markBuilding_any Ag Bg nw cg kw dg _ _ P D 1 _ Y3.out (by omega) (by omega) (by omega) (by omega)).mono ?_
  rintro e w4 ⟨rfl, om, wm, r1, r2, hg1, hg2, hr1, hr2⟩
  have X4 := Lib.hid ((X3.out.grown hg1 (fun e => by have := hr1 _ e.symm; omega)).grown hg2 (fun e => by have := hr2 _ e.symm; omega))
  have G4 := Lib.hid ((G3.out.grown hg1 (fun e => by have := hr1 _ e.symm; omega)).grown hg2 (fun e => by have := hr2 _ e.symm; omega))
  have C4 := Lib.hid (below_grown (below_grown C3.out hg1 (fun g e => by have := hr1 g e; omega)) hg2 (fun g e => by have := hr2 g e; omega))
  have W4 := Lib.hid ((W3.out.apart hg1 (fun g e => .inr (by have := hr1 g e; omega))).apart hg2 (fun g e => .inr (by have := hr2 g e; omega)))
  have Y4 := Lib.hid om
  clear q0 q1 g0 g1 X3 W3 C3 G3 Y3 om hg1 hg2 hr1 hr2
  obtain ⟨q0, q1⟩ := X4.out.cells
  obtain ⟨g0, g1⟩ := G4.out.cells
  have hz1 : ¬ (1 + (nw : Int) + (kw : Int) < 0) := by omega
  have hz2 : ((1 + (nw : Int) + (kw : Int)) != (1 + (nw : Int) + (kw : Int))) = false := by simp
  go_wp2_with fail
  refine (heldBuilding_any Ag Bg nw cg kw dg 1 _ Y4.out.bld (by omega) (by omega) (by omega) (by omega)).mono ?_
  rintro e w5 ⟨rfl, b5⟩
  have X5 := Lib.hid (X4.out.on b5)
  have W5 := Lib.hid (W4.out.below b5)
  have C5 := Lib.hid (below_trans' C4.out b5)
  have G5 := Lib.hid (G4.out.on b5)
  have Y5 := Lib.hid (Y4.out.below b5)
  clear b5 q0 q1 g0 g1 X4 W4 C4 G4 Y4
  go_wp2_with fail
  refine (H2.out _ hs (HE.out.on C5.out)).mono ?_
  rintro e w6 ⟨Ah, nh, ch, Bh, kh, dh, rfl, oh, hnh, hkh, b6⟩
  obtain rfl : nw = nh := by rw [← oh.ps.len, ← W5.out.ps.len]
  obtain rfl : kw = kh := by rw [← oh.ds.len, ← W5.out.ds.len]
  have bA := (Below.refl w6.heap.size w6).alloc (Nat.le_refl _) (.cells #[.slice Ah nw ch, .slice Bh kw dh] 27)
  have X6 := Lib.hid ((X5.out.on b6).on bA)
  have W6 := Lib.hid ((W5.out.below b6).below bA)
  have C6 := Lib.hid (below_trans' (below_trans' C5.out b6) bA)
  have G6 := Lib.hid ((G5.out.on b6).on bA)
  have Y6 := Lib.hid ((Y5.out.below b6).below bA)
  have K6 := Lib.hid (Cell2.new w6 27 (.slice Ah nw ch) (.slice Bh kw dh))
  have Z6 := Lib.hid (oh.below bA)
  clear b6 bA oh X5 W5 C5 G5 Y5
  obtain ⟨q0, q1⟩ := X6.out.cells
  obtain ⟨p0, p1⟩ := K6.out.cells
  go_wp2_with fail
  refine (eqBuilding_true _ _ _ _ _ _ _ _ _ _ P D _ Z6.out.bld W6.out.bld (by omega) (by omega)).mono ?_
  rintro e w7 ⟨rfl, b7⟩
  have C7 := Lib.hid (below_trans' C6.out b7)
  have G7 := Lib.hid (G6.out.on b7)
  have Y7 := Lib.hid (Y6.out.below b7)
  clear b7 q0 q1 p0 p1 X6 W6 C6 G6 Y6 K6 Z6
  obtain ⟨g0, g1⟩ := G7.out.cells
  go_wp2_with fail
  refine (heldBuilding_any Ag Bg nw cg kw dg 1 _ Y7.out.bld (by omega) (by omega) (by omega) (by omega)).mono ?_
  rintro e w8 ⟨rfl, b8⟩
  have C8 := Lib.hid (below_trans' C7.out b8)
  clear b8 g0 g1
  go_wp2
  go_ret
  exact ⟨rfl, C8.out⟩

end Go.Proofs.YtgbicepneonkfaaDoor
