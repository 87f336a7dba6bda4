/- The model's functions on buildings: nodes under a node, ancestors, doors. The codes of both. -/
import Derived.Test.YtgbicepneonkfaaDoorBldI
namespace Go.Proofs.YtgbicepneonkfaaDoor
open Go.RowKit

/-- the code of a building and some nodes -/
def codB (P : List Int) (D : List Bool) (xs : List Int) : Int := if bldB P D then (if nodesB P xs then 0 else 2) else 1
theorem codB_one (P : List Int) (D : List Bool) (x : Int) : codB P D [x] = nodE P D x := by unfold codB nodE nodesB; simp
theorem codB_none (P : List Int) (D : List Bool) : codB P D [] = bdE P D := by unfold codB bdE nodesB; simp
theorem nodesB_no {P xs : List Int} {j : Nat} {v : Int} (hv : xs[j]? = some v) (h : inB v 0 ((P.length : Int) - 1) = false) : nodesB P xs = false := not_all (p := fun x => inB x 0 ((P.length : Int) - 1)) hv h

set_option maxHeartbeats 1000000 in
theorem codeForB_any (A B N : Option Addr) (n c k d q e0 : Nat) (P : List Int) (D : List Bool) (xs : List Int) (w : World) (h : Bld w A n B k P D) (hx : Ints w w.heap.size N q xs) (hn : n ≤ 1048576) (hk : k ≤ 1048576) (hq : q ≤ 1048576) :
    Calls Tryd.prog 34 #[.agg #[.slice A n c, .slice B k d], .slice N q e0] w fun e w' => e = .returned (.int .i64 (codB P D xs)) ∧ Below w.heap.size w w' := by
  have c0 := (Below.refl w.heap.size w).alloc (Nat.le_refl _) (.cells #[.slice A n c, .slice B k d] 27)
  have h0 := Lib.hid (h.on c0)
  have x0 := Lib.hid (hx.on c0)
  have C0 := Lib.hid c0
  have K0 := Lib.hid (Cell2.new w 27 (.slice A n c) (.slice B k d))
  obtain ⟨p0, p1⟩ := K0.out.cells
  have HL := Lib.hid h.ps.len
  have HX := Lib.hid hx.len
  clear c0
  go_enter Tryd.func34, Tryd.ntmps34
  go_wp2_with fail
  refine (isBuilding_any A B n c k d P D _ h0.out hn hk).mono ?_
  rcases hb : bldB P D with _ | _
  · rintro e w1 ⟨rfl, b1⟩
    have C1 := Lib.hid (C0.out.trans (b1.mono C0.out.size))
    have HB := Lib.hid hb
    clear b1 hb
    go_wp2
    go_ret
    exact ⟨ret_int (by unfold codB; rw [HB.out]; rfl), C1.out⟩
  rintro e w1 ⟨rfl, b1⟩
  have C1 := Lib.hid (C0.out.trans (b1.mono C0.out.size))
  have X1 := Lib.hid (x0.out.on b1)
  obtain ⟨p0', p1'⟩ := (K0.out.on b1).cells
  have HB := Lib.hid hb
  clear b1 hb p0 p1 x0
  go_wp2
  go_loop [12] (fun i => ∃ j : Nat, j ≤ q ∧ i = .int .i64 j ∧ Hid (nodesB P (xs.take j) = true)) (fun i => q - (intOf i).toNat)
  case atStart => exact ⟨0, Nat.zero_le _, rfl, Lib.hid rfl⟩
  case round =>
    obtain ⟨j, hj, rfl, hall⟩ := hrel
    by_cases hlt : j < q
    · obtain ⟨ad, v, rfl, hab, hv, hc⟩ := X1.out.at_ hlt
      have HV := Lib.hid hv
      have i0 : (0 : Int) ≤ (j : Int) := by omega
      have i1 : (j : Int) < (q : Int) := by omega
      clear hv
      rcases hin : inB v 0 ((n : Int) - 1) with _ | _
      · go_wp2_with (go_at_call 48; (with_reducible refine (isWithin_any _ _ _ _).mono ?_); rintro e w' ⟨rfl, rfl⟩)
        go_ret
        exact ⟨ret_int (by unfold codB; rw [HB.out, nodesB_no HV.out (by rw [HL.out]; exact hin)]; rfl), C1.out⟩
      · go_wp2_with (go_at_call 48; (with_reducible refine (isWithin_any _ _ _ _).mono ?_); rintro e w' ⟨rfl, rfl⟩)
        go_round
        case rel => exact ⟨j + 1, by omega, by go_num, Lib.hid (by have h1 := hall.out; unfold nodesB at *; rw [take_all HV.out, h1, HL.out, hin]; rfl)⟩
        case measure => simp [intOf]; omega
    · have HE : Hid (nodesB P xs = true) := Lib.hid (by rw [← hall.out, take_end HX.out hlt])
      go_wp2
      go_ret
      exact ⟨ret_int (by unfold codB; rw [HB.out, HE.out]; rfl), C1.out⟩

end Go.Proofs.YtgbicepneonkfaaDoor
