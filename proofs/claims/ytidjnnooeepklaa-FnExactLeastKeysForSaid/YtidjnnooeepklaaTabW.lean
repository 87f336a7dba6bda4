/- The program's leastKeys and LeastKeysFor. -/
import Derived.Test.YtidjnnooeepklaaTabX
import Derived.Test.YtidjnnooeepklaaTabK
import Derived.Deep.RegionHeld3
namespace Go.Proofs.Ytidjnnooeepklaa
open Go Go.RowKit

theorem keySize_at (u s : Nat) (hu : u < 1024) (hs : onesN 10 u = s) (w : World) :
    Calls Try.prog 141 #[.int .i64 (u : Int)] w fun e w' => e = .returned (.int .i64 (s : Nat)) ∧ w = w' := by
  subst hs; exact keySize_any u hu w
theorem TBox.all {w : World} {g n m : Nat} {F : Nat → Nat} (h : TBox w g n m F) : w.cell? ⟨g, 0, none⟩ = some (.int .i64 (n : Int)) ∧ w.cell? ⟨g, 1, none⟩ = some (.int .i64 (m : Int)) ∧ w.cell? ⟨g, 2, none⟩ = some (.int .u16 ((F 0 : Nat) : Int)) ∧ w.cell? ⟨g, 3, none⟩ = some (.int .u16 ((F 1 : Nat) : Int)) ∧ w.cell? ⟨g, 4, none⟩ = some (.int .u16 ((F 2 : Nat) : Int)) ∧ w.cell? ⟨g, 5, none⟩ = some (.int .u16 ((F 3 : Nat) : Int)) ∧ w.cell? ⟨g, 6, none⟩ = some (.int .u16 ((F 4 : Nat) : Int)) ∧ w.cell? ⟨g, 7, none⟩ = some (.int .u16 ((F 5 : Nat) : Int)) ∧ w.cell? ⟨g, 8, none⟩ = some (.int .u16 ((F 6 : Nat) : Int)) ∧ w.cell? ⟨g, 9, none⟩ = some (.int .u16 ((F 7 : Nat) : Int)) ∧ w.cell? ⟨g, 10, none⟩ = some (.int .u16 ((F 8 : Nat) : Int)) ∧ w.cell? ⟨g, 11, none⟩ = some (.int .u16 ((F 9 : Nat) : Int)) :=
  ⟨h.nm.1, h.nm.2, h.cell (i := 0) (by omega), h.cell (i := 1) (by omega), h.cell (i := 2) (by omega), h.cell (i := 3) (by omega), h.cell (i := 4) (by omega), h.cell (i := 5) (by omega), h.cell (i := 6) (by omega), h.cell (i := 7) (by omega), h.cell (i := 8) (by omega), h.cell (i := 9) (by omega)⟩
theorem two_small : ∀ n, n < 11 → wrap64 (wrap64 ((2 : Int) ^ n) - 1) = ((2 ^ n - 1 : Nat) : Int) ∧ 2 ^ n ≤ 1024 ∧ 1 ≤ 2 ^ n := by decide +kernel

set_option maxRecDepth 100000 in
set_option maxHeartbeats 4000000 in
theorem leastKeys_any (n m D : Nat) (F : Nat → Nat) (w : World) (hn : n ≤ 10) (hF : ∀ i, i < n → F i < 4096) (hD : D < 4096) :
    Calls Try.prog 102 #[.agg (tabA n m F), .int .u16 (D : Int)] w fun e w' => (∃ r : Nat, e = .returned (.tuple #[.int .i64 (r : Int), .bool (decide (D &&& opU n F (2 ^ n - 1) n = D))]) ∧ r < 1024 ∧ (decide (D &&& opU n F (2 ^ n - 1) n = D) = true → r = bestF n (fun u => decide (D &&& opU n F u n = D)) (2 ^ n) (2 ^ n - 1))) ∧ Below w.heap.size w w' := by
  obtain ⟨hp, hp2, hp1⟩ := two_small n (by omega)
  have C0 := Lib.hid (below_boxT w (.cells (tabA n m F) 83))
  have G0 := Lib.hid (TBox.new w n m F)
  have HF := Lib.hid hF
  have hc := G0.out.nm.1
  obtain ⟨dd, hU, hDD⟩ := undT
  have HU := Lib.hid hU
  have HD := Lib.hid hDD
  have HZ2 := Lib.hid Try.infoT
  have R0 := Lib.hid G0.out.range
  have hal : 2 ^ n - 1 < 1024 := by omega
  have hol := opU_lt (u := 2 ^ n - 1) hF n (Nat.le_refl _)
  have HPW := Lib.hid (show (2 ^ n - 1) + 1 = 2 ^ n by omega)
  have HPC := Lib.hid (pop_ones n (by omega))
  clear hF hU hDD
  obtain ⟨W, hW⟩ : ∃ W, W = w.alloc (.cells (tabA n m F) 83) := ⟨_, rfl⟩
  have hW2 := hW
  unfold tabA at hW2 hc
  rw [← hW] at C0 G0 R0
  have hc' := G0.out.nm.1
  obtain ⟨al, hal2⟩ : ∃ al, al = 2 ^ n - 1 := ⟨_, rfl⟩
  rw [← hal2] at hp hal hol ⊢
  have HPWN := Lib.hid (show al < 2 ^ n by omega)
  have HAL := Lib.hid hal2
  clear hal2 hp1 hp2
  rcases hok : decide (D &&& opU n F al n = D) with _ | _
  · have HOK := Lib.hid hok
    go_enter Try.func102, Try.ntmps102
    unfold tabA
    go_wp2_with fail
    rw [← hW2]
    clear hW hW2 hc
    refine (openedBy_any n m al F _ hn hal HF.out).mono ?_
    rintro e w1 ⟨rfl, b1⟩
    have C1 := Lib.hid (below_trans' C0.out b1)
    clear b1
    go_wp2_with (first
      | (go_at_call 82; refine (doorIsIn_any D _ hD hol _).mono ?_; rw [HOK.out]; rintro e w2 ⟨rfl, rfl⟩))
    go_ret2
    exact ⟨⟨0, rfl, by omega, fun h => by cases h⟩, C1.out⟩
  · have HOK := Lib.hid hok
    go_enter Try.func102, Try.ntmps102
    unfold tabA
    go_wp2_with fail
    rw [← hW2]
    clear hW hW2 hc
    refine (openedBy_any n m al F _ hn hal HF.out).mono ?_
    rintro e w1 ⟨rfl, b1⟩
    have C1 := Lib.hid (below_trans' C0.out b1)
    have G1 := Lib.hid (G0.out.on b1)
    clear b1 hc'
    generalize hP : (fun u => decide (D &&& opU n F u n = D)) = P at *
    have HPE : Hid (∀ u, P u = decide (D &&& opU n F u n = D)) := Lib.hid (fun u => by rw [← hP])
    have HB0 : Hid (bestF n P (2 ^ n) al = bestF n P (al + 1) al) := Lib.hid (by rw [HAL.out, HPW.out])
    clear hP hok
    go_wp2_with (go_at_call 82; refine (doorIsIn_any D _ hD hol _).mono ?_; rw [HOK.out]; rintro e w2 ⟨rfl, rfl⟩)
    clear hol hp
    go_loopw [7, 8] (fun s i wr => ∃ r v : Nat, v ≤ al + 1 ∧ v ≤ r + 1 ∧ r < 1024 ∧ i = .int .i64 ((v : Int) - 1) ∧ s = .int .i64 (r : Int) ∧ Hid (r < 2 ^ n) ∧ Hid (bestF n P (2 ^ n) al = bestF n P v r) ∧ Hid (TBox wr w.heap.size n m F) ∧ Hid (Below w.heap.size w wr)) (fun _ i _ => (intOf i + 1).toNat)
    case atStart => exact ⟨al, al + 1, Nat.le_refl _, Nat.le_refl _, hal, by simp, rfl, HPWN, HB0, G1, C1⟩
    case round =>
      obtain ⟨r, v, hv1, hv2, hr, rfl, rfl, HR2, HBF, HG, HB⟩ := hrel
      clear HB0 G1 C1
      rcases Nat.eq_zero_or_pos v with h0 | h0
      · subst h0
        have HE : Hid (r = bestF n P (2 ^ n) al) := Lib.hid (by rw [HBF.out]; rfl)
        go_wp2
        go_ret2
        exact ⟨⟨r, rfl, hr, fun _ => by rw [HE.out]; congr 1; funext u; exact HPE.out u⟩, HB.out⟩
      · obtain ⟨x, rfl⟩ : ∃ x, v = x + 1 := ⟨v - 1, by omega⟩
        have hx : ((x + 1 : Nat) : Int) - 1 = (x : Int) := by omega
        rw [hx]
        have hx10 : x < 1024 := by omega
        have hxn : x < 2 ^ n := by have := HAL.out; have := HPWN.out; omega
        have HPX := Lib.hid (HPC.out x hxn)
        have HPR := Lib.hid (HPC.out r HR2.out)
        have hox := opU_lt (u := x) HF.out n (Nat.le_refl _)
        have HXN := Lib.hid hxn
        have x0 : (0 : Int) ≤ (x : Int) := by omega
        clear hx hxn
        by_cases hlt : onesN 10 x < onesN 10 r
        · have hlt2 : ((onesN 10 x : Nat) : Int) < ((onesN 10 r : Nat) : Int) := by omega
          have HLT := Lib.hid hlt
          have hP := HPE.out x
          rcases hb : P x with _ | _
          · have HN : Hid (bestF n P (2 ^ n) al = bestF n P x r) := Lib.hid (by rw [HBF.out, show bestF n P (x + 1) r = bestF n P x (if decide (popU n x < popU n r) && P x then x else r) from rfl, hb, Bool.and_false]; rfl)
            have HQ : Hid (decide (D &&& opU n F x n = D) = false) := Lib.hid (by rw [← hP, hb])
            obtain ⟨c0, c1, c2, c3, c4, c5, c6, c7, c8, c9, ca, cb⟩ := HG.out.all
            clear hlt hb hP
            obtain ⟨sx, hsx⟩ : ∃ sx, onesN 10 x = sx := ⟨_, rfl⟩
            obtain ⟨sr, hsr⟩ : ∃ sr, onesN 10 r = sr := ⟨_, rfl⟩
            rw [hsx, hsr] at hlt2
            have HSX := Lib.hid hsx
            have HSR := Lib.hid hsr
            clear hsx hsr
            go_wp2_with (first
              | (go_at_call 141; refine (keySize_at x sx hx10 HSX.out _).mono ?_; rintro e w' ⟨rfl, rfl⟩)
              | (go_at_call 141; refine (keySize_at r sr hr HSR.out _).mono ?_; rintro e w' ⟨rfl, rfl⟩))
            refine (openedBy_any n m x F _ hn hx10 HF.out).mono ?_
            rintro e w3 ⟨rfl, b3⟩
            have G3 := Lib.hid (HG.out.on b3)
            have B3 := Lib.hid (below_trans' HB.out b3)
            clear b3 c0 c1 c2 c3 c4 c5 c6 c7 c8 c9 ca cb
            go_wp2_with (go_at_call 82; refine (doorIsIn_any D _ hD hox _).mono ?_; rw [HQ.out]; rintro e w2 ⟨rfl, rfl⟩)
            go_roundw
            case rel => exact ⟨r, x, by omega, by omega, hr, by first | rfl | (congr 1), rfl, HR2, HN, G3, B3⟩
            case measure => simp [intOf]
          · have HN : Hid (bestF n P (2 ^ n) al = bestF n P x x) := Lib.hid (by rw [HBF.out, show bestF n P (x + 1) r = bestF n P x (if decide (popU n x < popU n r) && P x then x else r) from rfl, hb, Bool.and_true, decide_eq_true (by rw [← HPX.out, ← HPR.out]; exact hlt)]; rfl)
            have HQ : Hid (decide (D &&& opU n F x n = D) = true) := Lib.hid (by rw [← hP, hb])
            obtain ⟨c0, c1, c2, c3, c4, c5, c6, c7, c8, c9, ca, cb⟩ := HG.out.all
            clear hlt hb hP
            obtain ⟨sx, hsx⟩ : ∃ sx, onesN 10 x = sx := ⟨_, rfl⟩
            obtain ⟨sr, hsr⟩ : ∃ sr, onesN 10 r = sr := ⟨_, rfl⟩
            rw [hsx, hsr] at hlt2
            have HSX := Lib.hid hsx
            have HSR := Lib.hid hsr
            clear hsx hsr
            go_wp2_with (first
              | (go_at_call 141; refine (keySize_at x sx hx10 HSX.out _).mono ?_; rintro e w' ⟨rfl, rfl⟩)
              | (go_at_call 141; refine (keySize_at r sr hr HSR.out _).mono ?_; rintro e w' ⟨rfl, rfl⟩))
            refine (openedBy_any n m x F _ hn hx10 HF.out).mono ?_
            rintro e w3 ⟨rfl, b3⟩
            have G3 := Lib.hid (HG.out.on b3)
            have B3 := Lib.hid (below_trans' HB.out b3)
            clear b3 c0 c1 c2 c3 c4 c5 c6 c7 c8 c9 ca cb
            go_wp2_with (go_at_call 82; refine (doorIsIn_any D _ hD hox _).mono ?_; rw [HQ.out]; rintro e w2 ⟨rfl, rfl⟩)
            go_roundw
            case rel => exact ⟨x, x, by omega, by omega, hx10, by first | rfl | (congr 1), rfl, HXN, HN, G3, B3⟩
            case measure => simp [intOf]
        · have hlt2 : ¬ ((onesN 10 x : Nat) : Int) < ((onesN 10 r : Nat) : Int) := by omega
          have HN : Hid (bestF n P (2 ^ n) al = bestF n P x r) := Lib.hid (by rw [HBF.out, show bestF n P (x + 1) r = bestF n P x (if decide (popU n x < popU n r) && P x then x else r) from rfl, decide_eq_false (by rw [← HPX.out, ← HPR.out]; exact hlt), Bool.false_and]; rfl)
          obtain ⟨sx, hsx⟩ : ∃ sx, onesN 10 x = sx := ⟨_, rfl⟩
          obtain ⟨sr, hsr⟩ : ∃ sr, onesN 10 r = sr := ⟨_, rfl⟩
          rw [hsx, hsr] at hlt2
          have HSX := Lib.hid hsx
          have HSR := Lib.hid hsr
          clear hsx hsr hlt
          go_wp2_with (first
            | (go_at_call 141; refine (keySize_at x sx hx10 HSX.out _).mono ?_; rintro e w' ⟨rfl, rfl⟩)
            | (go_at_call 141; refine (keySize_at r sr hr HSR.out _).mono ?_; rintro e w' ⟨rfl, rfl⟩))
          go_roundw
          case rel => exact ⟨r, x, by omega, by omega, hr, by first | rfl | (congr 1), rfl, HR2, HN, HG, HB⟩
          case measure => simp [intOf]

theorem leastKeysFor1_any (n m r x g g2 : Nat) (F : Nat → Nat) (w : World) (hn : n ≤ 10) (hx : x < n) (hr : r < 1024) (h : TBox w g n m F) (h2 : w.cell? ⟨g2, 0, none⟩ = some (.int .i64 (r : Int))) :
    Calls Try.prog 104 #[.int .i64 (x : Int), .pointer (some ⟨g, 0, none⟩), .pointer (some ⟨g2, 0, none⟩)] w fun e w' => e = .returned (.bool (r.testBit (n - 1 - x))) ∧ Below w.heap.size w w' := by
  obtain ⟨c0, c1, c2, c3, c4, c5, c6, c7, c8, c9, ca, cb⟩ := h.all
  go_enter Try.func104, Try.ntmps104
  go_wp2_with fail
  refine (keyHas_any n m r x F _ hn hx hr).mono ?_
  rintro e w1 ⟨rfl, b1⟩
  clear c0 c1 c2 c3 c4 c5 c6 c7 c8 c9 ca cb
  go_wp2
  go_ret
  exact ⟨rfl, b1⟩

theorem riseB_in {m : Int} {ds : List Int} (h : riseB m ds = true) : ∀ d ∈ ds, 0 ≤ d ∧ d < m := by
  intro d hd
  obtain ⟨k, hk, e⟩ := List.getElem_of_mem hd
  unfold riseB at h
  have h1 := List.all_eq_true.1 h k (List.mem_range.2 hk)
  unfold stepB at h1
  have hg : ds.getD k 0 = d := by rw [List.getD_eq_getElem?_getD, List.getElem?_eq_getElem hk, e]; rfl
  rw [hg] at h1
  simp at h1
  exact ⟨h1.1.1, h1.1.2⟩

end Go.Proofs.Ytidjnnooeepklaa
