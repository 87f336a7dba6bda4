/- CommonGroup of the model. -/
import Derived.Test.YtnadcjclihflcaaBldG
namespace Go.Proofs.Ytnadcjclihflcaa
open Go Go.RowKit

theorem cg_bad {P : List Int} {D : List Bool} {xs : List Int} (h : bldB P D = false) : cgE P D xs = 1 ∧ cgV P D xs = 0 := by
  have e : cgE P D xs = 1 := by unfold cgE; rw [h]; rfl
  exact ⟨e, by unfold cgV; rw [e]; rfl⟩
theorem cg_node {P : List Int} {D : List Bool} {xs : List Int} (h : bldB P D = true) (hn : nodesB P xs = false) : cgE P D xs = 2 ∧ cgV P D xs = 0 := by
  have e : cgE P D xs = 2 := by unfold cgE; rw [h, hn]; rfl
  exact ⟨e, by unfold cgV; rw [e]; rfl⟩
theorem cod_is {P : List Int} {D : List Bool} {xs : List Int} (h : bldB P D = true) (hn : nodesB P xs = true) : codB P D xs = 0 := by unfold codB; rw [h, hn]; rfl
theorem all_step {p : Int → Bool} {xs : List Int} {j : Nat} {v : Int} (hv : xs[j]? = some v) : (xs.take (j + 1)).all p = ((xs.take j).all p && p v) := take_all hv

set_option maxRecDepth 100000 in
set_option maxHeartbeats 4000000 in
theorem specCommonGroup_any (A B N : Option Addr) (n c k d q e0 : Nat) (P : List Int) (D : List Bool) (xs : List Int) (w : World) (h : Bld w A n B k P D) (hx : Ints w w.heap.size N q xs) (hn : n ≤ 1048576) (hk : k ≤ 1048576) (hq : q ≤ 1048576) :
    Calls Try.prog 77 #[.agg #[.slice A n c, .slice B k d], .slice N q e0] w fun e w' => e = .returned (.tuple #[.int .i64 (cgV P D xs), .int .i64 (cgE P D xs)]) ∧ Below w.heap.size w w' := by
  have c0 := (Below.refl w.heap.size w).alloc (Nat.le_refl _) (.cells #[.slice A n c, .slice B k d] 27)
  have h0 := Lib.hid (h.on c0)
  have C0 := Lib.hid c0
  have K0 := Lib.hid (Cell2.new w 27 (.slice A n c) (.slice B k d))
  have H := Lib.hid h
  have HX := Lib.hid hx
  have HL := Lib.hid H.out.ps.len
  have HQ := Lib.hid HX.out.len
  obtain ⟨p0, p1⟩ := K0.out.cells
  clear c0 h hx
  rcases hb : bldB P D with _ | _
  · have HV := Lib.hid (cg_bad (xs := xs) hb)
    rw [HV.out.1, HV.out.2]
    have HB := Lib.hid hb
    clear hb
    go_enter Try.func77, Try.ntmps77
    go_wp2_with fail
    refine (specIsBuilding_any A B n c k d P D _ h0.out hn hk).mono ?_
    rw [HB.out]
    rintro e w1 ⟨rfl, b1⟩
    have C1 := Lib.hid (C0.out.trans (b1.mono C0.out.size))
    clear b1 p0 p1
    go_wp2
    go_ret2
    exact ⟨rfl, C1.out⟩
  obtain ⟨hT, n2, n24, _⟩ := bld_tree hb
  rw [HL.out] at n2 n24
  have HT := Lib.hid hT
  have HB := Lib.hid hb
  clear hT hb
  go_enter Try.func77, Try.ntmps77
  go_wp2_with fail
  refine (specIsBuilding_any A B n c k d P D _ h0.out hn hk).mono ?_
  rw [HB.out]
  rintro e w1 ⟨rfl, b1⟩
  have C1 := Lib.hid (C0.out.trans (b1.mono C0.out.size))
  have K1 := Lib.hid (K0.out.on b1)
  clear b1 p0 p1 C0 K0 h0
  go_wp2
  go_loopw [6] (fun i wr => ∃ j : Nat, j ≤ q ∧ i = .int .i64 j ∧ Hid (nodesB P (xs.take j) = true) ∧ Hid (Cell2 wr w.heap.size 27 (.slice A n c) (.slice B k d)) ∧ Hid (Below w.heap.size w wr)) (fun i _ => q - (intOf i).toNat)
  case atStart => exact ⟨0, Nat.zero_le _, rfl, Lib.hid rfl, K1, C1⟩
  case round =>
    obtain ⟨j, hj, rfl, hall, HK, HBW⟩ := hrel
    clear K1 C1
    by_cases hlt : j < q
    · obtain ⟨ad, v, rfl, hab, hv, hc⟩ := (HX.out.on HBW.out).at_ hlt
      have HV := Lib.hid hv
      have i0 : (0 : Int) ≤ (j : Int) := by omega
      have i1 : (j : Int) < (q : Int) := by omega
      obtain ⟨p0, p1⟩ := HK.out.cells
      have HC := Lib.hid hc
      have HP := Lib.hid (And.intro p0 p1)
      clear hv
      rcases hin : inB v 0 ((n : Int) - 1) with _ | _
      · have HI := Lib.hid hin
        have HV2 : Hid (cgE P D xs = 2 ∧ cgV P D xs = 0) := Lib.hid (cg_node HB.out (nodesB_no HV.out (by rw [HL.out]; exact hin)))
        clear hin
        go_wp2
        go_region_held3 (fun w' => w'.cell? ⟨w.heap.size, 0, none⟩ = some (.slice A n c) ∧ w'.cell? ⟨w.heap.size, 1, none⟩ = some (.slice B k d) ∧ w'.cell? (ad.add j) = some (.int .i64 v))
          (first
            | go_keep
            | (with_reducible exact HP2.out))
          (first
            | (go_at_call 128; refine (l09Node_any A B n c k d v _ hn).mono ?_; rw [HI.out]; rintro e w2 ⟨rfl, b2⟩; have HP2 : Hid (w2.cell? ⟨w.heap.size, 0, none⟩ = some (.slice A n c) ∧ w2.cell? ⟨w.heap.size, 1, none⟩ = some (.slice B k d) ∧ w2.cell? (ad.add j) = some (.int .i64 v)) := Lib.hid ⟨(b2.cell (p := ⟨w.heap.size, 0, none⟩) HK.out.lt).trans HP.out.1, (b2.cell (p := ⟨w.heap.size, 1, none⟩) HK.out.lt).trans HP.out.2, (b2.cell (p := ad.add j) (by rw [block_of_add]; exact hab)).trans HC.out⟩; have HK2 := Lib.hid (HK.out.on (below_trans' (below_drewN (Below.refl _ _) 1) b2)); have HB2 := Lib.hid (below_trans' HBW.out (below_trans' (below_drewN (Below.refl _ _) 1) b2))))
        all_goals
          clear p0 p1 hc
          go_wp2
          go_ret2
          exact ⟨by rw [HV2.out.1, HV2.out.2]; rfl, HB2.out⟩
      · have HI := Lib.hid hin
        have HA : Hid (nodesB P (xs.take (j + 1)) = true) := Lib.hid (by have h1 := hall.out; unfold nodesB at *; rw [take_all HV.out, h1, HL.out, hin]; rfl)
        clear hin
        go_wp2
        go_region_held3 (fun w' => w'.cell? ⟨w.heap.size, 0, none⟩ = some (.slice A n c) ∧ w'.cell? ⟨w.heap.size, 1, none⟩ = some (.slice B k d) ∧ w'.cell? (ad.add j) = some (.int .i64 v))
          (first
            | go_keep
            | (with_reducible exact HP2.out))
          (first
            | (go_at_call 128; refine (l09Node_any A B n c k d v _ hn).mono ?_; rw [HI.out]; rintro e w2 ⟨rfl, b2⟩; have HP2 : Hid (w2.cell? ⟨w.heap.size, 0, none⟩ = some (.slice A n c) ∧ w2.cell? ⟨w.heap.size, 1, none⟩ = some (.slice B k d) ∧ w2.cell? (ad.add j) = some (.int .i64 v)) := Lib.hid ⟨(b2.cell (p := ⟨w.heap.size, 0, none⟩) HK.out.lt).trans HP.out.1, (b2.cell (p := ⟨w.heap.size, 1, none⟩) HK.out.lt).trans HP.out.2, (b2.cell (p := ad.add j) (by rw [block_of_add]; exact hab)).trans HC.out⟩; have HK2 := Lib.hid (HK.out.on (below_trans' (below_drewN (Below.refl _ _) 1) b2)); have HB2 := Lib.hid (below_trans' HBW.out (below_trans' (below_drewN (Below.refl _ _) 1) b2))))
        all_goals
          clear p0 p1 hc
          go_wp2
          go_roundw
          case rel => exact ⟨j + 1, by omega, by go_num, HA, HK2, HB2⟩
          case measure => simp [intOf]; omega
    · have HN : Hid (nodesB P xs = true) := Lib.hid (by rw [← hall.out, take_end HQ.out hlt])
      have hcod := cod_is HB.out HN.out
      rcases hl : inB (q : Int) 1 24 with _ | _
      · have HV2 := Lib.hid (cg_len hcod (by rw [HQ.out]; exact hl))
        clear hcod
        go_wp2_with (go_at_call 113; (with_reducible refine (l01In_any _ _ _ _).mono ?_); rintro e w' ⟨rfl, rfl⟩)
        go_ret2
        exact ⟨by rw [HV2.out.1, HV2.out.2]; rfl, HBW.out⟩
      have HV2 := Lib.hid (cg_yes hcod (by rw [HQ.out]; exact hl))
      have HR : Hid (∀ y ∈ xs, 0 ≤ y ∧ y.toNat < n) := Lib.hid (fun y hy => by have := nodesB_at HN.out hy; rw [HL.out] at this; omega)
      clear hcod hall
      go_wp2_with (go_at_call 113; (with_reducible refine (l01In_any _ _ _ _).mono ?_); rintro e w' ⟨rfl, rfl⟩)
      obtain ⟨wo, rfl⟩ : ∃ wo, wo = wr := ⟨_, rfl⟩
      have L0 : Hid (0 = lastN (allU P xs) 0) := Lib.hid rfl
      go_loopw [7, 8] (fun b i wr => ∃ (g z : Nat), g ≤ n ∧ z ≤ n ∧ i = .int .i64 g ∧ b = .int .i64 z ∧ Hid (z = lastN (allU P xs) g) ∧ Hid (Cell2 wr w.heap.size 27 (.slice A n c) (.slice B k d)) ∧ Hid (Below w.heap.size w wr)) (fun _ i _ => n - (intOf i).toNat)
      case atStart => exact ⟨0, 0, Nat.zero_le _, Nat.zero_le _, rfl, rfl, L0, HK, HBW⟩
      case round =>
        obtain ⟨g, z, hg, hz, rfl, rfl, HZ, HK, HBW⟩ := hrel
        clear L0
        obtain ⟨p0, p1⟩ := HK.out.cells
        by_cases hgn : (g : Int) < (n : Int)
        · have A0 : Hid (true = (xs.take 0).all (fun x => und P g x.toNat)) := Lib.hid rfl
          obtain ⟨wq, rfl⟩ : ∃ wq, wq = wr := ⟨_, rfl⟩
          go_wp2
          clear p0 p1
          go_loopw [9, 10] (fun b i wr => ∃ (j : Nat) (a : Bool), j ≤ q ∧ i = .int .i64 j ∧ b = .bool a ∧ Hid (a = (xs.take j).all (fun x => und P g x.toNat)) ∧ Hid (Cell2 wr w.heap.size 27 (.slice A n c) (.slice B k d)) ∧ Hid (Below w.heap.size w wr)) (fun _ i _ => q - (intOf i).toNat)
          case atStart => exact ⟨0, true, Nat.zero_le _, rfl, rfl, A0, HK, HBW⟩
          case round =>
            obtain ⟨j, a, hj, rfl, rfl, HA, HK, HBW⟩ := hrel
            clear A0
            by_cases hlt : (j : Int) < (q : Int)
            · have hlt' : j < q := by omega
              obtain ⟨ad, v, rfl, hab, hv, hc⟩ := (HX.out.on HBW.out).at_ hlt'
              have hvr := HR.out v (List.mem_of_getElem? hv)
              have i0 : (0 : Int) ≤ (j : Int) := by omega
              obtain ⟨p0, p1⟩ := HK.out.cells
              have HC := Lib.hid hc
              have HP := Lib.hid (And.intro p0 p1)
              have HS := Lib.hid (all_step (p := fun x => und P g x.toNat) hv)
              clear hv
              cases a with
              | false =>
                have HA2 : Hid (false = (xs.take (j + 1)).all (fun x => und P g x.toNat)) := Lib.hid (by rw [HS.out, ← HA.out]; rfl)
                clear HS
                go_wp2
                go_quiet (fail)
                have B5 := Lib.hid (below_drewN HBW.out nq)
                clear p0 p1 hc HA
                go_wp2
                go_roundw
                case rel => exact ⟨j + 1, false, by omega, by go_num, rfl, HA2, HK, B5⟩
                case measure => simp [intOf]; omega
              | true =>
                obtain ⟨u, rfl⟩ := Int.eq_ofNat_of_zero_le hvr.1
                have hun : u < n := by have := hvr.2; simpa using this
                obtain ⟨a2, ha2⟩ : ∃ a2, und P g u = a2 := ⟨_, rfl⟩
                have HA2 : Hid (a2 = (xs.take (j + 1)).all (fun x => und P g x.toNat)) := Lib.hid (by rw [HS.out, ← HA.out, ← ha2]; rfl)
                have HU := Lib.hid ha2
                clear HS HA ha2 hvr
                go_wp2
                go_region_held3 (fun w' => w'.cell? ⟨w.heap.size, 0, none⟩ = some (.slice A n c) ∧ w'.cell? ⟨w.heap.size, 1, none⟩ = some (.slice B k d) ∧ w'.cell? (ad.add j) = some (.int .i64 (u : Int)))
                  (first
                    | go_keep
                    | (with_reducible exact HP2.out))
                  (first
                    | (go_at_call 99; refine (l09Under_any A B n c k d u (g : Int) P D _ ((H.out.on HBW.out).on (below_drewN (Below.refl _ _) 1)) HT.out hn hun (by omega)).mono ?_; rw [Int.toNat_natCast, HU.out]; rintro e w2 ⟨rfl, b2⟩; have HP2 : Hid (w2.cell? ⟨w.heap.size, 0, none⟩ = some (.slice A n c) ∧ w2.cell? ⟨w.heap.size, 1, none⟩ = some (.slice B k d) ∧ w2.cell? (ad.add j) = some (.int .i64 (u : Int))) := Lib.hid ⟨(b2.cell (p := ⟨w.heap.size, 0, none⟩) HK.out.lt).trans HP.out.1, (b2.cell (p := ⟨w.heap.size, 1, none⟩) HK.out.lt).trans HP.out.2, (b2.cell (p := ad.add j) (by rw [block_of_add]; exact hab)).trans HC.out⟩; have HK2 := Lib.hid (HK.out.on (below_trans' (below_drewN (Below.refl _ _) 1) b2)); have HB2 := Lib.hid (below_trans' HBW.out (below_trans' (below_drewN (Below.refl _ _) 1) b2))))
                all_goals
                  clear p0 p1 hc
                  go_wp2
                  go_roundw
                  case rel => exact ⟨j + 1, a2, by omega, by go_num, rfl, HA2, HK2, HB2⟩
                  case measure => simp [intOf]; omega
            · obtain rfl : j = q := by omega
              have HU : Hid (a = allU P xs g) := Lib.hid (by rw [HA.out, List.take_of_length_le (by have := HQ.out; omega)]; rfl) 
              have hgn' : g < n := by omega
              cases a with
              | false =>
                have HZ2 : Hid (z = lastN (allU P xs) (g + 1)) := Lib.hid (by rw [HZ.out]; simp [lastN, ← HU.out])
                clear HA HZ
                go_wp2
                go_roundw
                case rel => exact ⟨g + 1, z, by omega, by omega, by go_num, rfl, HZ2, HK, HBW⟩
                case measure => simp [intOf]; omega
              | true =>
                have HZ2 : Hid (g = lastN (allU P xs) (g + 1)) := Lib.hid (by simp [lastN, ← HU.out])
                clear HA HZ
                go_wp2
                go_roundw
                case rel => exact ⟨g + 1, g, by omega, by omega, by go_num, rfl, HZ2, HK, HBW⟩
                case measure => simp [intOf]; omega
        · obtain rfl : g = n := by omega
          have HG : Hid (comN P xs = z) := Lib.hid (by rw [HZ.out]; unfold comN; rw [HL.out])
          go_wp2
          go_ret2
          exact ⟨by rw [HV2.out.1, HV2.out.2, HG.out]; rfl, HBW.out⟩

end Go.Proofs.Ytnadcjclihflcaa
