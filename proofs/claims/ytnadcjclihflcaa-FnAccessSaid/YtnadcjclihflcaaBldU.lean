/- The model's functions on buildings: nodes under a node, ancestors, doors. The codes of both. -/
import Derived.Test.YtnadcjclihflcaaBldI
namespace Go.Proofs.Ytnadcjclihflcaa
open Go.RowKit

/-- the code of a building and some nodes -/
def codB (P : List Int) (D : List Bool) (xs : List Int) : Int := if bldB P D then (if nodesB P xs then 0 else 2) else 1
theorem codB_one (P : List Int) (D : List Bool) (x : Int) : codB P D [x] = nodE P D x := by unfold codB nodE nodesB; simp
theorem codB_none (P : List Int) (D : List Bool) : codB P D [] = bdE P D := by unfold codB bdE nodesB; simp
theorem nodesB_no {P xs : List Int} {j : Nat} {v : Int} (hv : xs[j]? = some v) (h : inB v 0 ((P.length : Int) - 1) = false) : nodesB P xs = false := not_all (p := fun x => inB x 0 ((P.length : Int) - 1)) hv h

set_option maxHeartbeats 1000000 in
theorem codeForB_any (A B N : Option Addr) (n c k d q e0 : Nat) (P : List Int) (D : List Bool) (xs : List Int) (w : World) (h : Bld w A n B k P D) (hx : Ints w w.heap.size N q xs) (hn : n ≤ 1048576) (hk : k ≤ 1048576) (hq : q ≤ 1048576) :
    Calls Try.prog 122 #[.agg #[.slice A n c, .slice B k d], .slice N q e0] w fun e w' => e = .returned (.int .i64 (codB P D xs)) ∧ Below w.heap.size w w' := by
  have c0 := (Below.refl w.heap.size w).alloc (Nat.le_refl _) (.cells #[.slice A n c, .slice B k d] 27)
  have h0 := Lib.hid (h.on c0)
  have x0 := Lib.hid (hx.on c0)
  have C0 := Lib.hid c0
  have K0 := Lib.hid (Cell2.new w 27 (.slice A n c) (.slice B k d))
  obtain ⟨p0, p1⟩ := K0.out.cells
  have HL := Lib.hid h.ps.len
  have HX := Lib.hid hx.len
  clear c0
  go_enter Try.func122, Try.ntmps122
  go_wp2_with fail
  refine (isBuilding_any A B n c k d P D _ h0.out hn hk).mono ?_
  rcases hb : bldB P D with _ | _
  · rintro e w1 ⟨rfl, b1⟩
    have C1 := Lib.hid (C0.out.trans (b1.mono C0.out.size))
    have HB := Lib.hid hb
    clear b1 hb
    go_wp2
    go_ret
    exact ⟨ret_int (by unfold codB; rw [HB.out]; rfl), C1.out⟩
  rintro e w1 ⟨rfl, b1⟩
  have C1 := Lib.hid (C0.out.trans (b1.mono C0.out.size))
  have X1 := Lib.hid (x0.out.on b1)
  obtain ⟨p0', p1'⟩ := (K0.out.on b1).cells
  have HB := Lib.hid hb
  clear b1 hb p0 p1 x0
  go_wp2
  go_loop [12] (fun i => ∃ j : Nat, j ≤ q ∧ i = .int .i64 j ∧ Hid (nodesB P (xs.take j) = true)) (fun i => q - (intOf i).toNat)
  case atStart => exact ⟨0, Nat.zero_le _, rfl, Lib.hid rfl⟩
  case round =>
    obtain ⟨j, hj, rfl, hall⟩ := hrel
    by_cases hlt : j < q
    · obtain ⟨ad, v, rfl, hab, hv, hc⟩ := X1.out.at_ hlt
      have HV := Lib.hid hv
      have i0 : (0 : Int) ≤ (j : Int) := by omega
      have i1 : (j : Int) < (q : Int) := by omega
      clear hv
      rcases hin : inB v 0 ((n : Int) - 1) with _ | _
      · go_wp2_with (go_at_call 96; (with_reducible refine (isWithin_any _ _ _ _).mono ?_); rintro e w' ⟨rfl, rfl⟩)
        go_ret
        exact ⟨ret_int (by unfold codB; rw [HB.out, nodesB_no HV.out (by rw [HL.out]; exact hin)]; rfl), C1.out⟩
      · go_wp2_with (go_at_call 96; (with_reducible refine (isWithin_any _ _ _ _).mono ?_); rintro e w' ⟨rfl, rfl⟩)
        go_round
        case rel => exact ⟨j + 1, by omega, by go_num, Lib.hid (by have h1 := hall.out; unfold nodesB at *; rw [take_all HV.out, h1, HL.out, hin]; rfl)⟩
        case measure => simp [intOf]; omega
    · have HE : Hid (nodesB P xs = true) := Lib.hid (by rw [← hall.out, take_end HX.out hlt])
      go_wp2
      go_ret
      exact ⟨ret_int (by unfold codB; rw [HB.out, HE.out]; rfl), C1.out⟩

theorem l09Node_any (A B : Option Addr) (n c k d : Nat) (x : Int) (w : World) (hn : n ≤ 1048576) :
    Calls Try.prog 128 #[.agg #[.slice A n c, .slice B k d], .int .i64 x] w fun e w' => e = .returned (.bool (inB x 0 ((n : Int) - 1))) ∧ Below w.heap.size w w' := by
  have C0 := Lib.hid ((Below.refl w.heap.size w).alloc (Nat.le_refl _) (.cells #[.slice A n c, .slice B k d] 27))
  obtain ⟨p0, p1⟩ := (Cell2.new w 27 (.slice A n c) (.slice B k d)).cells
  go_enter Try.func128, Try.ntmps128
  go_wp2_with (go_at_call 113; (with_reducible refine (l01In_any _ _ _ _).mono ?_); rintro e w' ⟨rfl, rfl⟩)
  go_ret
  exact ⟨rfl, C0.out⟩

theorem l09Code_any (A B : Option Addr) (n c k d : Nat) (P : List Int) (D : List Bool) (x : Int) (w : World) (h : Bld w A n B k P D) (hn : n ≤ 1048576) (hk : k ≤ 1048576) :
    Calls Try.prog 121 #[.agg #[.slice A n c, .slice B k d], .int .i64 x] w fun e w' => e = .returned (.int .i64 (nodE P D x)) ∧ Below w.heap.size w w' := by
  have c0 := (Below.refl w.heap.size w).alloc (Nat.le_refl _) (.cells #[.slice A n c, .slice B k d] 27)
  have h0 := Lib.hid (h.on c0)
  have C0 := Lib.hid c0
  have K0 := Lib.hid (Cell2.new w 27 (.slice A n c) (.slice B k d))
  obtain ⟨p0, p1⟩ := K0.out.cells
  have HL := Lib.hid h.ps.len
  clear c0
  go_enter Try.func121, Try.ntmps121
  go_wp2_with fail
  refine (specIsBuilding_any A B n c k d P D _ h0.out hn hk).mono ?_
  rcases hb : bldB P D with _ | _
  · rintro e w1 ⟨rfl, b1⟩
    have C1 := Lib.hid (C0.out.trans (b1.mono C0.out.size))
    have HB := Lib.hid hb
    clear b1 hb
    go_wp2
    go_ret
    exact ⟨ret_int (by unfold nodE; rw [HB.out]; rfl), C1.out⟩
  rintro e w1 ⟨rfl, b1⟩
  have C1 := Lib.hid (C0.out.trans (b1.mono C0.out.size))
  obtain ⟨p0', p1'⟩ := (K0.out.on b1).cells
  have HB := Lib.hid hb
  clear b1 hb p0 p1
  go_wp2_with fail
  refine (l09Node_any A B n c k d x _ hn).mono ?_
  rcases hin : inB x 0 ((n : Int) - 1) with _ | _
  all_goals
    rintro e w2 ⟨rfl, b2⟩
    have C2 := Lib.hid (C1.out.trans (b2.mono C1.out.size))
    have HI := Lib.hid hin
    clear b2 hin
    go_wp2
    go_ret
    exact ⟨ret_int (by unfold nodE; rw [HB.out, HL.out, HI.out]; rfl), C2.out⟩

set_option maxHeartbeats 1000000 in
theorem l09Under_any (A B : Option Addr) (n c k d i : Nat) (g : Int) (P : List Int) (D : List Bool) (w : World) (h : Bld w A n B k P D) (hT : Tree P) (hn : n ≤ 1048576) (hi : i < n) (hg : 0 ≤ g) :
    Calls Try.prog 99 #[.agg #[.slice A n c, .slice B k d], .int .i64 i, .int .i64 g] w fun e w' => e = .returned (.bool (und P g.toNat i)) ∧ Below w.heap.size w w' := by
  have c0 := (Below.refl w.heap.size w).alloc (Nat.le_refl _) (.cells #[.slice A n c, .slice B k d] 27)
  have h0 := Lib.hid (h.on c0)
  have C0 := Lib.hid c0
  obtain ⟨p0, p1⟩ := (Cell2.new w 27 (.slice A n c) (.slice B k d)).cells
  have HL := Lib.hid h.ps.len
  have HT := Lib.hid hT
  obtain ⟨G, rfl⟩ := Int.eq_ofNat_of_zero_le hg
  rw [Int.toNat_natCast]
  clear c0 hT
  go_enter Try.func99, Try.ntmps99
  go_wp2
  go_loop [1] (fun v => (∃ j : Nat, j < n ∧ v = .int .i64 j ∧ Hid (und P G j = und P G i)) ∨ (v = .int .i64 (-1) ∧ Hid (und P G i = false))) (fun v => (intOf v + 1).toNat)
  case atStart => exact .inl ⟨i, hi, rfl, Lib.hid rfl⟩
  case round =>
    rcases hrel with ⟨j, hj, rfl, hu⟩ | ⟨rfl, hu⟩
    · obtain ⟨ad, rfl, hpj⟩ := h0.out.par_at hj
      have j0 : (0 : Int) ≤ (j : Int) := by omega
      by_cases he : j = G
      · subst he
        have HS := Lib.hid (und_self P j)
        go_wp2
        go_ret
        exact ⟨ret_bool (by rw [← hu.out, HS.out]), C0.out⟩
      · have hne : ((j : Int) == (G : Int)) = false := by simp; omega
        have hne' : ¬ (j : Int) = (G : Int) := by omega
        have HE := Lib.hid he
        rcases Nat.eq_zero_or_pos j with h00 | hjp
        · subst h00
          have HF : Hid (und P G i = false) := Lib.hid (by rw [← hu.out, und_root HT.out]; have := HE.out; simp; omega)
          rw [HT.out.root, add_zero'] at hpj
          have hn0 : (0 : Int) < (n : Int) := by omega
          clear he hu
          go_wp2
          go_round
          case rel => exact .inr ⟨rfl, HF⟩
          case measure => simp [intOf]
        · have hu2 := HT.out.up j hjp (by rw [HL.out]; exact hj)
          obtain ⟨q, hq⟩ : ∃ q : Nat, par P j = (q : Int) := ⟨(par P j).toNat, by omega⟩
          have HF : Hid (und P G q = und P G i) := Lib.hid (by
            rw [← hu.out, und_up HT.out hjp (by rw [HL.out]; exact hj), hq, Int.toNat_natCast]
            have : (G == j) = false := by have := HE.out; simp; omega
            rw [this]; rfl)
          have hqj : q < j := by omega
          have HQ := Lib.hid hqj
          rw [hq] at hpj
          clear he hu hu2 hq hqj
          go_wp2
          go_round
          case rel => exact .inl ⟨q, by have := HQ.out; omega, rfl, HF⟩
          case measure => simp [intOf]; have := HQ.out; omega
    · go_wp2
      go_ret
      exact ⟨ret_bool hu.out.symm, C0.out⟩

end Go.Proofs.Ytnadcjclihflcaa
