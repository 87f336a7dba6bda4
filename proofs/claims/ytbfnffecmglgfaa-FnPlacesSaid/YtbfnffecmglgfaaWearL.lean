/- WearLimit of the program and of the model. -/
import Derived.Test.YtbfnffecmglgfaaWearA
import Derived.Test.YtbfnffecmglgfaaSWearK
namespace Go.Proofs.Ytbfnffecmglgfaa
open Go Go.RowKit

/-- a maker and a lock as they lie in a call -/
structure IArg (w W : World) (m : Mk) (V : Option Addr) (n c : Nat) : Prop where
  x : Boxed W w.heap.size 25 m
  k : Cell1 W (w.heap.size + 1) 30 (.slice V n c)
  c : Below w.heap.size w W
theorem IArg.new (w : World) (m : Mk) (V : Option Addr) (n c : Nat) : IArg w ((w.alloc (.cells #[.int .i64 m.C, .int .i64 m.D, .int .i64 m.S, .int .i64 m.M, .int .i64 m.L] 25)).alloc (.cells #[.slice V n c] 30)) m V n c := by
  refine ⟨(Boxed.new w _ m).alloc _, ?_, ((Below.refl w.heap.size w).alloc (Nat.le_refl _) _).alloc (by simp) _⟩
  have := Cell1.new (w.alloc (.cells #[.int .i64 m.C, .int .i64 m.D, .int .i64 m.S, .int .i64 m.M, .int .i64 m.L] 25)) 30 (.slice V n c)
  rwa [World.size_alloc] at this
theorem IArg.on {w W W' : World} {m : Mk} {V : Option Addr} {n c : Nat} (h : IArg w W m V n c) (b : Below W.heap.size W W') : IArg w W' m V n c := ⟨h.x.on b, h.k.on b, below_trans' h.c b⟩
theorem IArg.cells {w W : World} {m : Mk} {V : Option Addr} {n c : Nat} (h : IArg w W m V n c) : W.cell? ⟨w.heap.size, 0, none⟩ = some (.int .i64 m.C) ∧ W.cell? ⟨w.heap.size, 1, none⟩ = some (.int .i64 m.D) ∧ W.cell? ⟨w.heap.size, 2, none⟩ = some (.int .i64 m.S) ∧ W.cell? ⟨w.heap.size, 3, none⟩ = some (.int .i64 m.M) ∧ W.cell? ⟨w.heap.size, 4, none⟩ = some (.int .i64 m.L) ∧ W.cell? ⟨w.heap.size + 1, 0, none⟩ = some (.slice V n c) := boxed_and h.x h.k.cell

theorem fit_wear {k : Int} (h0 : 0 ≤ k) (h1 : k ≤ 19) (t : Int) : isFit k t = isTol t := by
  unfold isFit inB
  simp [h0, h1]
theorem wkE_wear (m : Mk) (yss : List (List Int)) (xs : List Int) (t : Int) {k : Int} (h0 : 0 ≤ k) (h1 : k ≤ 19) : wkE m yss xs k t = wkE m yss xs 0 t := by
  unfold wkE
  rw [fit_wear h0 h1, fit_wear (by omega : (0 : Int) ≤ 0) (by omega)]
theorem wl_not {m : Mk} {yss : List (List Int)} {xs : List Int} {t : Int} (h : wkE m yss xs 0 t ≠ 0) : wlV m yss xs t = 0 ∧ wlE m yss xs t = wkE m yss xs 0 t := by
  unfold wlV wlE
  unfold wkE at *
  rw [fit_wear (by omega : (0 : Int) ≤ 0) (by omega)] at *
  rcases hL : lockB m yss with _ | _ <;> rcases hK : isKeyB m xs with _ | _ <;> rcases hT : isTol t with _ | _ <;> simp_all
theorem wl_yes {m : Mk} {yss : List (List Int)} {xs : List Int} {t : Int} (h : wkE m yss xs 0 t = 0) : (limTo (setP yss) t xs 20 < 0 → wlV m yss xs t = 0 ∧ wlE m yss xs t = 4) ∧ (¬ limTo (setP yss) t xs 20 < 0 → wlV m yss xs t = limTo (setP yss) t xs 20 ∧ wlE m yss xs t = 0) := by
  obtain ⟨hL, hK, hF⟩ := wkE_facts h
  rw [fit_wear (by omega : (0 : Int) ≤ 0) (by omega)] at hF
  unfold wlV wlE
  rw [hL, hK, hF]
  constructor <;> intro h1 <;> simp [h1]
theorem so_is {m : Mk} {yss : List (List Int)} {xs : List Int} {t : Int} (h : wkE m yss xs 0 t = 0) {i : Nat} (hi : i ≤ 19) : soV m yss xs (i : Int) t = frees (sureP (setP yss) t (i + 1)) 0 xs := by
  obtain ⟨hL, hK, hF⟩ := wkE_facts h
  rw [fit_wear (by omega : (0 : Int) ≤ 0) (by omega)] at hF
  unfold soV
  have hpl : plc (i : Int) = i + 1 := by unfold plc; omega
  rw [hpl]
  exact (wk_ok hL hK (by rw [fit_wear (by omega) (by omega)]; exact hF)).1
theorem limTo_low (p : Nat → Nat → Bool) (t : Int) (xs : List Int) : ∀ k : Nat, -1 ≤ limTo p t xs k ∧ limTo p t xs k < (k : Int)
  | 0 => by unfold limTo; omega
  | k + 1 => by
    have := limTo_low p t xs k
    unfold limTo
    split <;> omega

set_option maxRecDepth 100000 in
set_option maxHeartbeats 4000000 in
theorem wearLimit_any (m : Mk) (V : Option Addr) (n c : Nat) (yss : List (List Int)) (A : Option Addr) (q d : Nat) (xs : List Int) (t : Int) (w : World) (h : Sets w w.heap.size V n yss) (hn : n + sizeL yss ≤ 1048576) (hi : Ints w w.heap.size A q xs) (hq : q ≤ 1048576) :
    Calls Try.prog 59 #[.agg #[.int .i64 m.C, .int .i64 m.D, .int .i64 m.S, .int .i64 m.M, .int .i64 m.L], .agg #[.slice V n c], .slice A q d, .int .i64 t] w fun e w' => e = .returned (.tuple #[.int .i64 (wlV m yss xs t), .int .i64 (wlE m yss xs t)]) ∧ Below w.heap.size w w' := by
  have K0 := Lib.hid (IArg.new w m V n c)
  have HS := Lib.hid h
  have HI := Lib.hid hi
  have HN := Lib.hid hn
  clear h hi hn
  go_enter Try.func59, Try.ntmps59
  go_wp2
  go_loopw [10] (fun x wr => ∃ (j : Nat) (v : Int), v = (j : Int) - 1 ∧ x = .int .i64 v ∧ j ≤ 20 ∧ Hid (limTo (setP yss) t xs 20 = limTo (setP yss) t xs j ∧ (j < 20 → wkE m yss xs 0 t = 0)) ∧ Hid (IArg w wr m V n c)) (fun x _ => (intOf x + 1).toNat)
  case atStart => exact ⟨20, 19, by omega, rfl, by omega, Lib.hid ⟨rfl, fun h => absurd h (by omega)⟩, K0⟩
  case round =>
    clear K0
    obtain ⟨j, v, hv, rfl, hj, HJ, HK⟩ := hrel
    by_cases hlt : 0 ≤ v
    · obtain ⟨i, rfl⟩ : ∃ i : Nat, v = (i : Int) := ⟨v.toNat, by omega⟩
      obtain rfl : j = i + 1 := by omega
      have hi19 : i ≤ 19 := by omega
      obtain ⟨q0, q1, q2, q3, q4, ck⟩ := HK.out.cells
      have HW := Lib.hid (wkE_wear m yss xs t (k := (i : Int)) (by omega) (by omega))
      have g1 : IntKind.i64.wrap ((i : Int) - 1) = (i : Int) - 1 := IntWalk.i64_in _ (by omega)
      clear hv
      go_wp2_with fail
      refine (surelyOpens_any m _ _ _ yss _ _ _ xs (i : Int) t _ (HS.out.on HK.out.c) HN.out (HI.out.on HK.out.c) hq).mono ?_
      rw [HW.out]
      by_cases hz : wkE m yss xs 0 t = 0
      · have HZ := Lib.hid hz
        rw [so_is hz hi19, hz]
        clear hz
        obtain ⟨b, hb⟩ : ∃ b, frees (sureP (setP yss) t (i + 1)) 0 xs = b := ⟨_, rfl⟩
        have HB := Lib.hid hb
        rw [hb]
        clear hb
        rintro e w1 ⟨rfl, b1⟩
        have K1 := Lib.hid (HK.out.on b1)
        clear q0 q1 q2 q3 q4 ck b1
        rcases b with _ | _
        · have HL : Hid (limTo (setP yss) t xs 20 = limTo (setP yss) t xs i ∧ (i < 20 → wkE m yss xs 0 t = 0)) := Lib.hid ⟨by rw [HJ.out.1]; show (if _ then _ else _) = _; rw [HB.out]; rfl, fun _ => HZ.out⟩
          go_wp2
          go_roundw
          case rel => exact ⟨i, (i : Int) - 1, rfl, by go_num, by omega, HL, K1⟩
          case measure => simp [intOf]
        · have HL : Hid (limTo (setP yss) t xs 20 = (i : Int)) := Lib.hid (by rw [HJ.out.1]; show (if _ then _ else _) = _; rw [HB.out]; rfl)
          have HE := Lib.hid ((wl_yes HZ.out).2 (by rw [HL.out]; exact Int.not_lt.2 (Int.natCast_nonneg i)))
          have C := K1.out.c
          go_wp2
          go_ret2
          exact ⟨ret_int2 (by rw [HE.out.1, HL.out]) HE.out.2.symm, C⟩
      · have HE := Lib.hid (wl_not hz)
        have htest : (wkE m yss xs 0 t != 0) = true := by simpa using hz
        obtain ⟨z, hz2⟩ : ∃ z, wkE m yss xs 0 t = z := ⟨_, rfl⟩
        have HZ2 := Lib.hid hz2
        rw [hz2] at htest ⊢
        clear hz hz2
        rintro e w1 ⟨rfl, b1⟩
        have C := (HK.out.on b1).c
        clear q0 q1 q2 q3 q4 ck b1
        go_wp2
        go_ret2
        exact ⟨ret_int2 HE.out.1.symm (by rw [HE.out.2, HZ2.out]), C⟩
    · obtain rfl : j = 0 := by omega
      have HE := Lib.hid ((wl_yes (HJ.out.2 (by omega))).1 (by rw [HJ.out.1]; show (-1 : Int) < 0; omega))
      have C := HK.out.c
      go_wp2
      go_ret2
      exact ⟨ret_int2 HE.out.1.symm HE.out.2.symm, C⟩

set_option maxRecDepth 100000 in
set_option maxHeartbeats 4000000 in
theorem specWearLimit_any (m : Mk) (V : Option Addr) (n c : Nat) (yss : List (List Int)) (A : Option Addr) (q d : Nat) (xs : List Int) (t : Int) (w : World) (h : Sets w w.heap.size V n yss) (hn : n + sizeL yss ≤ 1048576) (hi : Ints w w.heap.size A q xs) (hq : q ≤ 1048576) (hd : q ≤ d) (hdm : d ≤ 9223372036854775807) :
    Calls Try.prog 60 #[.agg #[.int .i64 m.C, .int .i64 m.D, .int .i64 m.S, .int .i64 m.M, .int .i64 m.L], .agg #[.slice V n c], .slice A q d, .int .i64 t] w fun e w' => e = .returned (.tuple #[.int .i64 (wlV m yss xs t), .int .i64 (wlE m yss xs t)]) ∧ Below w.heap.size w w' := by
  have K0 := Lib.hid (IArg.new w m V n c)
  have HS := Lib.hid h
  have HLX := Lib.hid (And.intro hi.len h.len)
  have HI := Lib.hid hi
  have HN := Lib.hid hn
  clear h hi hn
  obtain ⟨q0, q1, q2, q3, q4, ck⟩ := K0.out.cells
  by_cases hz : wkE m yss xs 0 t = 0
  · obtain ⟨hL, hK, hF⟩ := wkE_facts hz
    have hqn : q ≤ n := by
      obtain ⟨f1, f2, _⟩ := key_facts hK
      obtain ⟨_, g2, _⟩ := lockB_facts hL
      have := HLX.out
      omega
    have H7 := Lib.hid (wk_sets hL)
    have HX := Lib.hid (key_seven hK)
    have HZ := Lib.hid hz
    clear hL hK hF hz
    go_enter Try.func60, Try.ntmps60
    go_wp2_with fail
    refine (l08Code_any m _ _ _ yss _ _ _ xs 0 t _ (HS.out.on K0.out.c) HN.out (HI.out.on K0.out.c) hq hd hdm).mono ?_
    rw [HZ.out]
    rintro e w1 ⟨rfl, b1⟩
    have K1 := Lib.hid (K0.out.on b1)
    clear q0 q1 q2 q3 q4 ck K0 b1
    go_wp2
    go_loopw [11, 12] (fun y x wr => ∃ (k : Nat), x = .int .i64 (k : Int) ∧ y = .int .i64 (limTo (setP yss) t xs k) ∧ k ≤ 20 ∧ Hid (IArg w wr m V n c)) (fun _ x _ => (20 - intOf x).toNat)
    case atStart => exact ⟨0, rfl, rfl, by omega, K1⟩
    case round =>
      clear K1
      obtain ⟨k, rfl, rfl, hk, HK⟩ := hrel
      by_cases hlt : (k : Int) ≤ 19
      · obtain ⟨q0, q1, q2, q3, q4, ck⟩ := HK.out.cells
        clear q0 q1 q2 q3 q4
        have g1 : IntKind.i64.wrap ((k : Int) + 1) = (k : Int) + 1 := IntWalk.i64_in _ (by omega)
        obtain ⟨z, hz⟩ : ∃ z, limTo (setP yss) t xs k = z := ⟨_, rfl⟩
        have HZ2 := Lib.hid hz
        rw [hz]
        clear hz
        obtain ⟨b, hb⟩ : ∃ b, frees (sureP (setP yss) t (k + 1)) 0 xs = b := ⟨_, rfl⟩
        have HB := Lib.hid hb
        clear hb
        go_wp2_with fail
        refine (l08Key_any _ _ _ yss _ _ _ xs k t _ (HS.out.on HK.out.c) HN.out H7.out (HI.out.on HK.out.c) hqn HX.out (by omega) _ b rfl HB.out).mono ?_
        rintro e w2 ⟨rfl, b2⟩
        have K2 := Lib.hid (HK.out.on b2)
        clear ck b2
        rcases b with _ | _
        · have HL : Hid (limTo (setP yss) t xs (k + 1) = z) := Lib.hid (by show (if _ then _ else _) = _; rw [HB.out]; exact HZ2.out)
          go_wp2
          go_roundw
          case rel => exact ⟨k + 1, by go_num, by rw [HL.out], by omega, K2⟩
          case measure => simp [intOf]; omega
        · have HL : Hid (limTo (setP yss) t xs (k + 1) = (k : Int)) := Lib.hid (by show (if _ then _ else _) = _; rw [HB.out]; rfl)
          go_wp2
          go_roundw
          case rel => exact ⟨k + 1, by go_num, by rw [HL.out], by omega, K2⟩
          case measure => simp [intOf]; omega
      · obtain rfl : k = 20 := by omega
        have C := HK.out.c
        have HE := Lib.hid (wl_yes HZ.out)
        obtain ⟨z, hz⟩ : ∃ z, limTo (setP yss) t xs 20 = z := ⟨_, rfl⟩
        rw [hz] at HE ⊢
        clear hz
        by_cases hneg : z < 0
        · have HF := Lib.hid (HE.out.1 hneg)
          clear HE
          go_wp2
          go_ret2
          exact ⟨ret_int2 HF.out.1.symm HF.out.2.symm, C⟩
        · have HF := Lib.hid (HE.out.2 hneg)
          clear HE
          go_wp2
          go_ret2
          exact ⟨ret_int2 HF.out.1.symm HF.out.2.symm, C⟩
  · have HE := Lib.hid (wl_not hz)
    have htest : (wkE m yss xs 0 t != 0) = true := by simpa using hz
    obtain ⟨z, hz2⟩ : ∃ z, wkE m yss xs 0 t = z := ⟨_, rfl⟩
    have HZ2 := Lib.hid hz2
    rw [hz2] at htest
    clear hz hz2
    go_enter Try.func60, Try.ntmps60
    go_wp2_with fail
    refine (l08Code_any m _ _ _ yss _ _ _ xs 0 t _ (HS.out.on K0.out.c) HN.out (HI.out.on K0.out.c) hq hd hdm).mono ?_
    rw [HZ2.out]
    rintro e w1 ⟨rfl, b1⟩
    have C := (K0.out.on b1).c
    clear q0 q1 q2 q3 q4 ck b1
    go_wp2
    go_ret2
    exact ⟨ret_int2 HE.out.1.symm (by rw [HE.out.2, HZ2.out]), C⟩

end Go.Proofs.Ytbfnffecmglgfaa
