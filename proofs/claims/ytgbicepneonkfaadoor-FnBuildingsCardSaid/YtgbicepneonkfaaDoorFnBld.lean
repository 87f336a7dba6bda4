/- FnBuildings: its walk. -/
import Derived.Test.YtgbicepneonkfaaDoorFnBT
import Derived.Test.YtgbicepneonkfaaDoorBldTP
import Derived.Deep.DeepCutAuto
namespace Go.Proofs.YtgbicepneonkfaaDoor
open Go Go.RowKit

set_option maxRecDepth 100000 in
set_option maxHeartbeats 4000000 in
theorem fnBuildings_any (A : Option Addr) (n c : Nat) (w : World) (h : Bts w w.heap.size A n) (env : Env Tryd.prog w) :
    Calls Tryd.prog 3 #[.slice A n c] w fun e w' => e = .returned (.bool true) ∧ Below w.heap.size w w' := by
  have HE := Lib.hid env
  clear env
  by_cases hn : n ≤ 4096
  rotate_left
  · have d0 : decide (4096 < (n : Int)) = true := by simp; omega
    go_enter Tryd.func3, Tryd.ntmps3
    go_wp2_with fail
    refine (big_any _ _ _ _).mono ?_
    rintro e w' ⟨rfl, rfl⟩
    rw [d0]
    go_wp2
    go_ret
    exact ⟨rfl, Below.refl _ _⟩
  have d0 : decide (4096 < (n : Int)) = false := by simp; omega
  have HB := Lib.hid h
  clear h
  go_enter Tryd.func3, Tryd.ntmps3
  go_wp2_with fail
  refine (big_any _ _ _ _).mono ?_
  rintro e w' ⟨rfl, rfl⟩
  rw [d0]
  clear d0
  go_wp2_with fail
  refine (drawBuildingText_any w.heap.size A n c w HB.out (Nat.le_refl _) hn).mono ?_
  rintro e w1 ⟨A1, m, c1, A2, k, c2, P, D, rfl, hO, hm, hk, b1⟩
  have bA := (Below.refl w1.heap.size w1).alloc (Nat.le_refl _) (.cells #[.slice A1 m c1, .slice A2 k c2] 27)
  have X1 := Lib.hid (Cell2.new w1 27 (.slice A1 m c1) (.slice A2 k c2))
  have H1 := Lib.hid (hO.bld.on bA)
  have C1 := Lib.hid (below_trans' b1 bA)
  have hx1 : w.heap.size ≤ w1.heap.size := b1.size
  clear bA b1 hO
  obtain ⟨p0, p1⟩ := X1.out.cells
  go_wp2_with fail
  refine (buildingText_any A1 A2 m c1 k c2 P D _ H1.out (by omega) (by omega) (HE.out.on C1.out).2.1).mono ?_
  rintro e w2 ⟨t, rfl, ht, htm, b2⟩
  have X2 := Lib.hid (X1.out.on b2)
  have H2 := Lib.hid (H1.out.on b2)
  have C2 := Lib.hid (below_trans' C1.out b2)
  clear b2 p0 p1 X1 H1 C1
  obtain ⟨p0, p1⟩ := X2.out.cells
  go_wp2_with fail
  refine (specBuildingText_any A1 A2 m c1 k c2 P D _ H2.out (by omega) (by omega)).mono ?_
  rintro e w3 ⟨t', rfl, ht', _, b3⟩
  obtain rfl : t = t' := text_eq (ht.trans ht'.symm)
  have HT : Hid (t.data.toList = btT P D) := Lib.hid ht
  have X3 := Lib.hid (X2.out.on b3)
  have H3 := Lib.hid (H2.out.on b3)
  have C3 := Lib.hid (below_trans' C2.out b3)
  have HB3 := Lib.hid (HB.out.keep (w' := w3) (fun p hp => C3.out.cell hp))
  have s3 := C3.out.size
  clear b3 p0 p1 X2 H2 C2 ht ht'
  go_wp2_with fail
  refine (drawReadBuilding_any w.heap.size A n c w3 HB3.out s3 hn).mono ?_
  rintro e w4 ⟨s, rfl, hs, b4⟩
  have X4 := Lib.hid (X3.out.on b4)
  have H4 := Lib.hid (H3.out.on b4)
  have C4 := Lib.hid (below_trans' C3.out b4)
  clear b4 X3 H3 C3 HB3 s3
  have hRT := rd_text (l := s.data.toList)
  have H5 := Lib.hid (readBuilding_any s)
  have H6 := Lib.hid (specReadBuilding_any s)
  generalize rdC s.data.toList = cc at hRT H5 H6
  generalize rdP s.data.toList = RP at hRT H5 H6
  generalize rdD s.data.toList = RD at hRT H5 H6
  have HRT : Hid (cc = 0 → bdE RP RD = 0 ∧ btT RP RD = s.data.toList) := Lib.hid hRT
  clear hRT
  go_wp2_with fail
  refine (H5.out _ (by omega) (HE.out.on C4.out)).mono ?_
  rintro e w5 ⟨Ag, ng, cg, Bg, kg, dg, rfl, og, hng, hkg, b5⟩
  have bA := (Below.refl w5.heap.size w5).alloc (Nat.le_refl _) (.cells #[.slice Ag ng cg, .slice Bg kg dg] 27)
  have G5 := Lib.hid (Cell2.new w5 27 (.slice Ag ng cg) (.slice Bg kg dg))
  have Y5 := Lib.hid (og.bld.on bA)
  have X5 := Lib.hid ((X4.out.on b5).on bA)
  have H5' := Lib.hid ((H4.out.on b5).on bA)
  have C5 := Lib.hid (below_trans' (below_trans' C4.out b5) bA)
  clear bA b5 og X4 H4 C4
  go_wp2_with fail
  refine (H6.out _ (by omega)).mono ?_
  rintro e w6 ⟨Aw, nw, cw, Bw, kw, dw, rfl, ow, hnw, hkw, b6⟩
  obtain rfl : ng = nw := by rw [← Y5.out.ps.len, ← ow.ps.len]
  obtain rfl : kg = kw := by rw [← Y5.out.ds.len, ← ow.ds.len]
  have bA := (Below.refl w6.heap.size w6).alloc (Nat.le_refl _) (.cells #[.slice Aw ng cw, .slice Bw kg dw] 27)
  have K6 := Lib.hid (Cell2.new w6 27 (.slice Aw ng cw) (.slice Bw kg dw))
  have Z6 := Lib.hid (ow.bld.on bA)
  have G6 := Lib.hid ((G5.out.on b6).on bA)
  have Y6 := Lib.hid ((Y5.out.on b6).on bA)
  have X6 := Lib.hid ((X5.out.on b6).on bA)
  have HH6 := Lib.hid ((H5'.out.on b6).on bA)
  have C6 := Lib.hid (below_trans' (below_trans' C5.out b6) bA)
  clear bA b6 ow G5 Y5 X5 H5' C5 H5 H6
  have de : (bdE P D != bdE P D) = false := by simp
  have dc : (cc != cc) = false := by simp
  have dt : (t.toList == t.toList) = true := by simp
  obtain ⟨g0, g1⟩ := G6.out.cells
  obtain ⟨k0, k1⟩ := K6.out.cells
  go_wp2_with fail
  refine (likeBuildings_true _ _ _ _ _ _ _ _ _ _ RP RD _ Y6.out Z6.out (by omega) (by omega)).mono ?_
  rintro e w7 ⟨rfl, b7⟩
  have G7 := Lib.hid (G6.out.on b7)
  have Y7 := Lib.hid (Y6.out.on b7)
  have X7 := Lib.hid (X6.out.on b7)
  have H7 := Lib.hid (HH6.out.on b7)
  have C7 := Lib.hid (below_trans' C6.out b7)
  clear b7 g0 g1 k0 k1 G6 Y6 X6 HH6 C6 K6 Z6
  have db : (!bldB P D == (bdE P D == 0)) = false := by unfold bdE; cases bldB P D <;> rfl
  obtain ⟨p0, p1⟩ := X7.out.cells
  go_wp2_with fail
  refine (isBuilding_any A1 A2 m c1 k c2 P D _ H7.out (by omega) (by omega)).mono ?_
  rintro e w8 ⟨rfl, b8⟩
  have G8 := Lib.hid (G7.out.on b8)
  have Y8 := Lib.hid (Y7.out.on b8)
  have X8 := Lib.hid (X7.out.on b8)
  have H8 := Lib.hid (H7.out.on b8)
  have C8 := Lib.hid (below_trans' C7.out b8)
  clear b8 p0 p1 G7 Y7 X7 H7 C7
  go_upto_if 70 with (fail)
  go_cut [] (fun wx => Below w8.heap.size w8 wx)
  case first =>
    rcases z0 : (cc == 0) with _ | _
    · go_wp2_with fail
      go_meet
      exact Below.refl _ _
    · obtain ⟨e1, e2⟩ := HRT.out (show cc = 0 by simpa using z0)
      have E1 := Lib.hid e1
      have E2 := Lib.hid e2
      have ds : (s.toList == s.toList) = true := by simp
      obtain ⟨g0, g1⟩ := G8.out.cells
      clear e1 e2
      go_wp2_with fail
      refine (buildingText_any Ag Bg ng cg kg dg RP RD _ Y8.out (by omega) (by omega) (HE.out.on C8.out).2.1).mono ?_
      rw [E1.out, E2.out]
      rintro e w9 ⟨u, rfl, hu, _, b9⟩
      obtain rfl : u = s := text_eq hu
      clear hu
      go_wp2_with fail
      go_meet
      exact b9
  case rest =>
    have C9 := Lib.hid (below_trans' C8.out hcut)
    have X9 := Lib.hid (X8.out.on hcut)
    have H9 := Lib.hid (H8.out.on hcut)
    clear hcut G8 Y8 X8 H8 C8
    rcases z0 : (bdE P D == 0) with _ | _
    · go_wp2
      go_ret
      exact ⟨rfl, C9.out⟩
    · obtain ⟨e1, e2, e3⟩ := text_rd (show bdE P D = 0 by simpa using z0)
      have E1 := Lib.hid e1
      have E2 := Lib.hid e2
      have E3 := Lib.hid e3
      clear e1 e2 e3
      go_wp2_with fail
      refine (readBuilding_any t _ (by omega) (HE.out.on C9.out)).mono ?_
      rw [HT.out, E1.out, E2.out, E3.out]
      rintro e w10 ⟨Ah, nh, ch, Bh, kh, dh, rfl, oh, hnh, hkh, b10⟩
      obtain rfl : m = nh := by rw [← oh.ps.len, ← H9.out.ps.len]
      obtain rfl : k = kh := by rw [← oh.ds.len, ← H9.out.ds.len]
      have bA := (Below.refl w10.heap.size w10).alloc (Nat.le_refl _) (.cells #[.slice Ah m ch, .slice Bh k dh] 27)
      have K10 := Lib.hid (Cell2.new w10 27 (.slice Ah m ch) (.slice Bh k dh))
      have Z10 := Lib.hid (oh.bld.on bA)
      have X10 := Lib.hid ((X9.out.on b10).on bA)
      have H10 := Lib.hid ((H9.out.on b10).on bA)
      have C10 := Lib.hid (below_trans' (below_trans' C9.out b10) bA)
      clear bA b10 oh X9 H9 C9
      obtain ⟨k0, k1⟩ := K10.out.cells
      obtain ⟨p0, p1⟩ := X10.out.cells
      go_wp2_with fail
      refine (likeBuildings_true _ _ _ _ _ _ _ _ _ _ P D _ Z10.out H10.out (by omega) (by omega)).mono ?_
      rintro e w11 ⟨rfl, b11⟩
      have C11 := Lib.hid (below_trans' C10.out b11)
      clear b11 k0 k1 p0 p1
      go_wp2
      go_ret
      exact ⟨rfl, C11.out⟩

end Go.Proofs.YtgbicepneonkfaaDoor
