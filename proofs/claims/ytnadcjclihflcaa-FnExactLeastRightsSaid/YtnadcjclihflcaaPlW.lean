/- The model's l10Whole and LeastRights. -/
import Derived.Test.YtnadcjclihflcaaPlU
namespace Go.Proofs.Ytnadcjclihflcaa
open Go Go.RowKit

theorem topB_cut {P : List Int} {p : Nat → Bool} {i X : Nat} (hX : par P i = (X : Int)) (h : p X = true) : topB P p i = false := by
  unfold topB
  have e : ((X : Int) == -1) = false := by simp
  rw [hX, Int.toNat_natCast, h, e]
  simp
theorem all_no {P xs L : List Int} {j : Nat} {v : Int} (hv : L[j]? = some v) (h : anyU P xs v.toNat = false) : (L.all fun x => anyU P xs x.toNat) = false := not_all (p := fun x => anyU P xs x.toNat) hv h

set_option maxRecDepth 100000 in
set_option maxHeartbeats 2000000 in
theorem l10Whole_any (A B N : Option Addr) (n c k d r e1 X : Nat) (P : List Int) (D : List Bool) (xs : List Int) (w : World) (h : Bld w A n B k P D) (hT : Tree P) (hkn : k = n) (n24 : n ≤ 24) (hX : X < n) (hx : Ints w w.heap.size N r xs) (hr : r ≤ 1048576) (h0 : ∀ x ∈ xs, 0 ≤ x) :
    Calls Try.prog 101 #[.agg #[.slice A n c, .slice B k d], .slice N r e1, .int .i64 (X : Int)] w fun e w' => e = .returned (.bool (whoB P D xs X)) ∧ Below w.heap.size w w' := by
  have c0 := (Below.refl w.heap.size w).alloc (Nat.le_refl _) (.cells #[.slice A n c, .slice B k d] 27)
  have K0 := Lib.hid (Cell2.new w 27 (.slice A n c) (.slice B k d))
  have C0 := Lib.hid c0
  have H := Lib.hid h
  have XX := Lib.hid hx
  have HT := Lib.hid hT
  have H0 := Lib.hid h0
  have HL := Lib.hid h.ps.len
  have HKN := Lib.hid hkn
  obtain ⟨p0, p1⟩ := K0.out.cells
  clear c0 h hx hT h0 hkn
  go_enter Try.func101, Try.ntmps101
  go_wp2_with fail
  refine (l09Doors_any A B n c k d X P D _ (H.out.on C0.out) HT.out HKN.out n24 hX).mono ?_
  rintro e w2 ⟨A2, n2, c2, rfl, ho, h1, h2, h3, b2⟩
  have C2 := Lib.hid (below_trans' C0.out b2)
  have K2 := Lib.hid (K0.out.on b2)
  have D2 := Lib.hid ho.ints
  have L2 := Lib.hid ho.len
  have HLN : Hid (∀ x ∈ doorsTo P D X n, 0 ≤ x ∧ x < n) := Lib.hid (fun x hx => by
    obtain ⟨i, hi, rfl, _⟩ := doorsTo_mem.1 hx
    omega)
  have HW : Hid (whoB P D xs X = (!(doorsTo P D X n).isEmpty && (doorsTo P D X n).all fun x => anyU P xs x.toNat)) := Lib.hid (by unfold whoB; rw [HL.out, doorsTo_am])
  have hn2 : n2 ≤ 24 := by rw [← L2.out]; exact Nat.le_trans (doorsTo_len _ _ _ _) n24
  clear b2 ho p0 p1 K0 C0
  generalize doorsTo P D X n = L at *
  go_wp2
  go_loopw [8] (fun x wr => ∃ j : Nat, j ≤ n2 ∧ x = .int .i64 j ∧ Hid (((L.take j).all fun x => anyU P xs x.toNat) = true) ∧ Hid (Below w2.heap.size w2 wr)) (fun x _ => n2 - (intOf x).toNat)
  case atStart => exact ⟨0, Nat.zero_le _, rfl, Lib.hid rfl, Lib.hid (Below.refl _ _)⟩
  case round =>
    obtain ⟨j, hj, rfl, hall, HF2⟩ := hrel
    have KK := Lib.hid (K2.out.on HF2.out)
    have CC := Lib.hid (below_trans' C2.out HF2.out)
    obtain ⟨p0, p1⟩ := KK.out.cells
    by_cases hlt : j < n2
    · obtain ⟨ad, v, rfl, hab, hv, hc⟩ := (D2.out.on HF2.out).at_ hlt
      have HV := Lib.hid hv
      have HVR : Hid (0 ≤ v ∧ v < n) := Lib.hid (HLN.out v (List.mem_of_getElem? hv))
      obtain ⟨G, rfl⟩ := Int.eq_ofNat_of_zero_le HVR.out.1
      have hG : G < n := by have := HVR.out.2; omega
      have HC := Lib.hid hc
      have HAB := Lib.hid hab
      have i0 : (0 : Int) ≤ (j : Int) := by omega
      have i1 : (j : Int) < (n2 : Int) := by omega
      clear hv hab
      rcases hu : anyU P xs G with _ | _
      · have HU := Lib.hid hu
        have HN : Hid (whoB P D xs X = false) := Lib.hid (by rw [HW.out, all_no HV.out (by rw [Int.toNat_natCast]; exact hu)]; simp)
        clear hu
        go_wp2
        go_region_held3 (fun w' => w'.cell? ⟨w.heap.size, 0, none⟩ = some (.slice A n c) ∧ w'.cell? ⟨w.heap.size, 1, none⟩ = some (.slice B k d) ∧ w'.cell? (ad.add j) = some (.int .i64 (G : Int)))
          (first
            | go_keep
            | (with_reducible exact E1.out))
          (first | (go_at_call 92; refine (l10May_any A B N n c k d r e1 G P D xs _ (H.out.on (below_drewN CC.out 1)) HT.out (XX.out.on (below_drewN CC.out 1)) (by omega) hr hG H0.out).mono ?_; rw [HU.out]; rintro e w3 ⟨rfl, b3⟩; have bb := below_trans' (below_drewN (Below.refl _ _) 1) b3; have F3 := Lib.hid (below_trans' HF2.out bb); have E1 := Lib.hid (And.intro (KK.out.on bb).cells.1 (And.intro (KK.out.on bb).cells.2 ((bb.cell (by rw [block_of_add]; exact HAB.out)).trans HC.out)))))
        all_goals
          clear p0 p1 hc
          have C3 := Lib.hid (below_trans' C2.out F3.out)
          go_wp2
          go_ret
          exact ⟨by rw [HN.out]; rfl, C3.out⟩
      · have HU := Lib.hid hu
        have HN : Hid (((L.take (j + 1)).all fun x => anyU P xs x.toNat) = true) := Lib.hid (by rw [take_all HV.out, hall.out, Int.toNat_natCast, hu]; rfl)
        clear hu
        go_wp2
        go_region_held3 (fun w' => w'.cell? ⟨w.heap.size, 0, none⟩ = some (.slice A n c) ∧ w'.cell? ⟨w.heap.size, 1, none⟩ = some (.slice B k d) ∧ w'.cell? (ad.add j) = some (.int .i64 (G : Int)))
          (first
            | go_keep
            | (with_reducible exact E1.out))
          (first | (go_at_call 92; refine (l10May_any A B N n c k d r e1 G P D xs _ (H.out.on (below_drewN CC.out 1)) HT.out (XX.out.on (below_drewN CC.out 1)) (by omega) hr hG H0.out).mono ?_; rw [HU.out]; rintro e w3 ⟨rfl, b3⟩; have bb := below_trans' (below_drewN (Below.refl _ _) 1) b3; have F3 := Lib.hid (below_trans' HF2.out bb); have E1 := Lib.hid (And.intro (KK.out.on bb).cells.1 (And.intro (KK.out.on bb).cells.2 ((bb.cell (by rw [block_of_add]; exact HAB.out)).trans HC.out)))))
        all_goals
          clear p0 p1 hc
          go_wp2
          go_roundw
          case rel => exact ⟨j + 1, by omega, by go_num, HN, F3⟩
          case measure => simp [intOf]; omega
    · obtain rfl : j = n2 := by omega
      have HA : Hid ((L.all fun x => anyU P xs x.toNat) = true) := Lib.hid (by rw [← hall.out, List.take_of_length_le (by have := L2.out; omega)])
      clear p0 p1
      by_cases hj0 : j = 0
      · have HN : Hid (whoB P D xs X = false) := Lib.hid (by rw [HW.out, List.eq_nil_of_length_eq_zero (L2.out.trans hj0)]; rfl)
        subst hj0
        go_wp2
        go_ret
        exact ⟨by rw [HN.out]; rfl, CC.out⟩
      · have HN : Hid (whoB P D xs X = true) := Lib.hid (by
          rw [HW.out, HA.out]
          rcases L with _ | ⟨y, t⟩
          · have := L2.out; simp at this; omega
          · rfl)
        have hj1 : 0 < j := by omega
        have hj3 : decide ((0 : Int) < (j : Int)) = true := by simp; omega
        go_wp2
        go_ret
        exact ⟨by rw [HN.out]; rfl, CC.out⟩

/-- what l10Whole answers, for every world that holds the building and the rights -/
def Calls_whole (A B A2 : Option Addr) (n c k d r e1 X : Nat) (P : List Int) (D : List Bool) (ys : List Int) : Prop := ∀ w' : World, Bld w' A n B k P D → Ints w' w'.heap.size A2 r ys → Calls Try.prog 101 #[.agg #[.slice A n c, .slice B k d], .slice A2 r e1, .int .i64 (X : Int)] w' fun e w2 => e = .returned (.bool (whoB P D ys X)) ∧ Below w'.heap.size w' w2

set_option maxRecDepth 100000 in
set_option maxHeartbeats 2000000 in
theorem specLeastRights_any (A B V : Option Addr) (n c k d q e0 : Nat) (P : List Int) (D : List Bool) (R : List (List Int)) (x : Int) (w : World) (h : Pl w A n B k V q P D R) (hn : n ≤ 1048576) (hk : k ≤ 1048576) (hq : q + sizeL R ≤ 1048576) :
    Calls Try.prog 41 #[.agg #[.slice A n c, .slice B k d, .slice V q e0], .int .i64 x] w (GivesList w (pkE P D R x) (lrL P D R x)) := by
  have c0 := (Below.refl w.heap.size w).alloc (Nat.le_refl _) (.cells #[.slice A n c, .slice B k d, .slice V q e0] 30)
  have h0 := Lib.hid (h.on c0)
  have C0 := Lib.hid c0
  have K0 := Lib.hid (Cell3.new w 30 (.slice A n c) (.slice B k d) (.slice V q e0))
  have H := Lib.hid h
  have HP := Lib.hid h.b.ps.len
  have HR := Lib.hid h.r.len
  have HQ := Lib.hid hq
  obtain ⟨p0, p1, p2⟩ := K0.out.cells
  clear c0 h
  obtain ⟨z, hz⟩ : ∃ z, pkE P D R x = z := ⟨_, rfl⟩
  have HZ := Lib.hid hz
  by_cases hz0 : z = 0
  rotate_left
  · have HD : Hid (lrL P D R x = []) := Lib.hid (by unfold lrL; rw [hz, if_neg hz0])
    have ht : (z != 0) = true := by simpa using hz0
    rw [hz, HD.out]
    clear hz hz0
    go_enter Try.func41, Try.ntmps41
    go_wp2_with fail
    refine (l10Code_any A B V n c k d q e0 P D R x _ h0.out hn hk HQ.out).mono ?_
    rw [HZ.out]
    rintro e w1 ⟨rfl, b1⟩
    have C1 := Lib.hid (below_trans' C0.out b1)
    clear b1 p0 p1 p2
    go_wp2
    go_ret2
    exact ⟨none, 0, 0, rfl, Own.nil _ (Nat.le_refl _), by omega, by omega, by omega, C1.out⟩
  subst hz0
  obtain ⟨hp, K, rfl, hK⟩ := pk_zero H.out.r.len hz
  obtain ⟨hT, n2, n24, hkn, q1', q10, hrig, hr⟩ := plan_facts H.out hp
  have HT := Lib.hid hT
  have HKN := Lib.hid hkn
  have HRR := Lib.hid hr
  have HRG := Lib.hid hrig
  have HPL := Lib.hid hp
  have HX : Hid (riN R (K : Int) = R.getD K []) := Lib.hid rfl
  have i0 : (0 : Int) ≤ (K : Int) := by omega
  have i1 : (K : Int) < (q : Int) := by omega
  have HC0 := Lib.hid hz
  rw [hz]
  clear hz hp hT hkn hr hrig
  have HD : Hid (lrL P D R (K : Int) = topTo P (whoB P D (R.getD K [])) n) := Lib.hid (by unfold lrL; rw [HC0.out, if_pos rfl, HP.out]; rfl)
  obtain ⟨ii, hi0, hz0, hz1, hz2⟩ := info_parts Try.info2'
  have HF := Lib.hid (And.intro hi0 (And.intro hz0 (And.intro hz1 hz2)))
  clear hi0 hz0 hz1 hz2
  go_enter Try.func41, Try.ntmps41
  go_wp2_with fail
  refine (l10Code_any A B V n c k d q e0 P D R (K : Int) _ h0.out hn hk HQ.out).mono ?_
  rw [HZ.out]
  rintro e w1 ⟨rfl, b1⟩
  have C1 := Lib.hid (below_trans' C0.out b1)
  have K1 := Lib.hid (K0.out.on b1)
  clear b1 p0 p1 p2 K0 h0 C0
  obtain ⟨p0, p1, p2⟩ := K1.out.cells
  obtain ⟨ad, ys, A2, q2', c2, rfl, hab, hy, hc, hi, _, _⟩ := (H.out.on C1.out).r.at_ hK
  have HG : Hid (R.getD K [] = ys) := Lib.hid (getD_list hy)
  have HI := Lib.hid hi
  have HCC := Lib.hid hc
  have HAB := Lib.hid hab
  have HY0 : Hid (∀ x ∈ ys, 0 ≤ x ∧ x < n) := Lib.hid (fun x hx => HRR.out K hK x (by rw [getD_list hy]; exact hx))
  have HYR : Hid (rigB n ys = true) := Lib.hid (by rw [← getD_list hy]; exact HRG.out K hK)
  have hq2 : q2' ≤ 1048576 := by have := fits_at HQ.out hy; have := hi.len; omega
  clear hy hi hab
  go_wp2
  go_region_held3 (fun w' => w'.cell? ⟨w.heap.size, 0, none⟩ = some (.slice A n c) ∧ w'.cell? ⟨w.heap.size, 1, none⟩ = some (.slice B k d) ∧ w'.cell? ⟨w.heap.size, 2, none⟩ = some (.slice (some ad) q e0) ∧ w'.cell? (ad.add K) = some (.slice A2 q2' c2))
    (first | go_keep)
    (first | fail)
  have bA := ((Below.refl w1.heap.size w1).alloc (Nat.le_refl _) (.cells #[.slice A n c, .slice B k d] 27)).drew
  have K3 : Hid (Cell2 (w1.alloc (.cells #[.slice A n c, .slice B k d] 27)).drew w1.heap.size 27 (.slice A n c) (.slice B k d)) := Lib.hid (Cell2.new w1 27 (.slice A n c) (.slice B k d))
  have C3 := Lib.hid (below_trans' C1.out bA)
  have I3 := Lib.hid (HI.out.on bA)
  clear bA p0 p1 p2 hc K1 HI
  generalize (w1.alloc (.cells #[.slice A n c, .slice B k d] 27)).drew = w3 at *
  have R2 := Lib.hid (rowNil (w := w3) (t := 2) (s := 1) (base := w3.heap.size) (Nat.le_refl _))
  have F2 := Lib.hid ((Below.refl w3.heap.size w3).alloc (Nat.le_refl _) (.cells #[] 2))
  have HY1 : Hid (∀ x ∈ ys, 0 ≤ x) := Lib.hid (fun x hx => (HY0.out x hx).1)
  have HPP : Hid (∀ X, X < n → Calls_whole A B A2 n c k d q2' c2 X P D ys) := Lib.hid (fun X hX w' hb hi => l10Whole_any A B A2 n c k d q2' c2 X P D ys w' hb HT.out HKN.out n24 hX hi hq2 HY1.out)
  go_wp2
  go_loopw [9, 10] (fun y x wr => ∃ (j s : Nat) (pv : Value), j ≤ n ∧ x = .int .i64 j ∧ y = pv ∧ s ≤ j ∧ Hid ((topTo P (whoB P D ys) j).length = s) ∧ Hid (wr.ownsRow w3.heap.size 2 1 pv s (intsV (topTo P (whoB P D ys) j))) ∧ Hid (Below w3.heap.size w3 wr)) (fun _ x _ => n - (intOf x).toNat)
  case atStart => exact ⟨0, 0, _, Nat.zero_le _, rfl, rfl, Nat.le_refl _, Lib.hid rfl, R2, F2⟩
  case round =>
    obtain ⟨j, s, pv, hj, rfl, rfl, hs, HQ2, HR2, HF2⟩ := hrel
    clear R2 F2
    obtain ⟨A1, c1, rfl, _, _, _⟩ := rowInts HR2.out HQ2.out
    have KK := Lib.hid (K3.out.on HF2.out)
    have CC := Lib.hid (below_trans' C3.out HF2.out)
    obtain ⟨p0, p1⟩ := KK.out.cells
    by_cases hlt : j < n
    · obtain ⟨pa, e, hpj⟩ := (H.out.on CC.out).b.par_at hlt
      have HE := Lib.hid e
      subst e
      have i2 : (0 : Int) ≤ (j : Int) := by omega
      have i3 : (j : Int) < (n : Int) := by omega
      have HW1 := Lib.hid (HPP.out j hlt)
      rcases hw : whoB P D ys j with _ | _
      · have HU := Lib.hid hw
        have HN : Hid (topTo P (whoB P D ys) (j + 1) = topTo P (whoB P D ys) j) := Lib.hid (topTo_no (topB_no hw))
        clear hw
        go_wp2_with fail
        refine (HW1.out _ (H.out.on CC.out).b (I3.out.on HF2.out)).mono ?_
        rw [HU.out]
        rintro e w4 ⟨rfl, bb⟩
        have F3 := Lib.hid (below_trans' HF2.out bb)
        obtain ⟨p0', p1'⟩ := (KK.out.on bb).cells
        have R3 := Lib.hid (rowBelow HR2.out bb)
        clear p0 p1 hpj bb
        go_wp2
        go_roundw
        case rel => exact ⟨j + 1, s, _, by omega, by go_num, rfl, by omega, Lib.hid (by rw [HN.out]; exact HQ2.out), Lib.hid (by rw [HN.out]; exact R3.out), F3⟩
        case measure => simp [intOf]; omega
      have HU := Lib.hid hw
      clear hw
      rcases Nat.eq_zero_or_pos j with h00 | hjp
      · have HN : Hid (topTo P (whoB P D ys) (j + 1) = topTo P (whoB P D ys) j ++ [(j : Int)]) := Lib.hid (topTo_yes (by unfold topB; rw [HU.out, h00, HT.out.root]; rfl))
        have hroot : par P j = -1 := by rw [h00]; exact HT.out.root
        rw [hroot] at hpj
        clear hroot h00
        go_wp2_with fail
        refine (HW1.out _ (H.out.on CC.out).b (I3.out.on HF2.out)).mono ?_
        rw [HU.out]
        rintro e w4 ⟨rfl, bb⟩
        have F3 := Lib.hid (below_trans' HF2.out bb)
        have R3 := Lib.hid (rowBelow HR2.out bb)
        clear p0 p1 hpj bb
        have hszw := F3.out.size
        have HZV := Lib.hid (rowBase R3.out)
        go_wp2_with (at_builtin; refine wpList_append_lies _ rfl _ _ 24 rfl w3.heap.size 2 ii _ 1 8 Try.underlying24 HF.out.1 HF.out.2.1 HF.out.2.2.1 HF.out.2.2.2 rfl (by omega) _ s _ rfl (rowBelow R3.out ((Below.refl _ _).alloc (Nat.le_refl _) _)) ⟨w4.heap.size, 0, none⟩ 1 1 [.int .i64 (j : Int)] rfl rfl (World.news_of_block (cs := #[.int .i64 (j : Int)]) (t := 2) (fr := (0, 0)) (heap_alloc_new w4 _)) (by simp [Value.oneCell']) (by omega) (by unfold maxLen; omega) (by omega) (by simp; omega) (w4.heap.size + 1) (by simp) ?_; intro gg cap w5 hown1 hgrow hat hlt3)
        have R5 : Hid (w5.ownsRow w3.heap.size 2 1 (.slice (some ⟨gg, 0, none⟩) (s + 1) cap) (s + 1) (intsV (topTo P (whoB P D ys) (j + 1)))) := Lib.hid (by rw [HN.out, ← intsV_snoc]; exact hown1)
        have Q5 : Hid ((topTo P (whoB P D ys) (j + 1)).length = s + 1) := Lib.hid (by rw [HN.out, List.length_append, HQ2.out]; rfl)
        have F5 := Lib.hid ((F3.out.alloc F3.out.size (.cells #[.int .i64 (j : Int)] 2)).grown hgrow (by simp; omega) (fun q e => by have := HZV.out q e; omega))
        clear hown1 hgrow hat hlt3
        go_wp2
        go_roundw
        case rel => exact ⟨j + 1, s + 1, _, by omega, by go_num, rfl, by omega, Q5, R5, F5⟩
        case measure => simp [intOf]; omega
      have hu := HT.out.up j hjp (by rw [HP.out]; exact hlt)
      obtain ⟨X, hX⟩ := Int.eq_ofNat_of_zero_le hu.1
      have hXn : X < n := by omega
      have HW2 := Lib.hid (HPP.out X hXn)
      have hneg : decide ((X : Int) < 0) = false := by simp
      have hneg' : ¬ (X : Int) < 0 := by omega
      rcases hpx : whoB P D ys X with _ | _
      · have HV := Lib.hid hpx
        have HN : Hid (topTo P (whoB P D ys) (j + 1) = topTo P (whoB P D ys) j ++ [(j : Int)]) := Lib.hid (topTo_yes (by unfold topB; rw [HU.out, hX, Int.toNat_natCast, hpx]; simp))
        rw [hX] at hpj
        clear hX hpx hu
        go_wp2_with fail
        refine (HW1.out _ (H.out.on CC.out).b (I3.out.on HF2.out)).mono ?_
        rw [HU.out]
        rintro e w4 ⟨rfl, bb⟩
        have F3 := Lib.hid (below_trans' HF2.out bb)
        have C4 := Lib.hid (below_trans' CC.out bb)
        have R3 := Lib.hid (rowBelow HR2.out bb)
        obtain ⟨p0', p1'⟩ := (KK.out.on bb).cells
        clear p0 p1 hpj bb
        go_wp2_with fail
        refine (HW2.out _ (H.out.on C4.out).b (I3.out.on F3.out)).mono ?_
        rw [HV.out]
        rintro e w6 ⟨rfl, bb⟩
        have F4 := Lib.hid (below_trans' F3.out bb)
        have R4 := Lib.hid (rowBelow R3.out bb)
        clear p0' p1' bb
        have hszw := F4.out.size
        have HZV := Lib.hid (rowBase R4.out)
        go_wp2_with (at_builtin; refine wpList_append_lies _ rfl _ _ 24 rfl w3.heap.size 2 ii _ 1 8 Try.underlying24 HF.out.1 HF.out.2.1 HF.out.2.2.1 HF.out.2.2.2 rfl (by omega) _ s _ rfl (rowBelow R4.out ((Below.refl _ _).alloc (Nat.le_refl _) _)) ⟨w6.heap.size, 0, none⟩ 1 1 [.int .i64 (j : Int)] rfl rfl (World.news_of_block (cs := #[.int .i64 (j : Int)]) (t := 2) (fr := (0, 0)) (heap_alloc_new w6 _)) (by simp [Value.oneCell']) (by omega) (by unfold maxLen; omega) (by omega) (by simp; omega) (w6.heap.size + 1) (by simp) ?_; intro gg cap w5 hown1 hgrow hat hlt3)
        have R5 : Hid (w5.ownsRow w3.heap.size 2 1 (.slice (some ⟨gg, 0, none⟩) (s + 1) cap) (s + 1) (intsV (topTo P (whoB P D ys) (j + 1)))) := Lib.hid (by rw [HN.out, ← intsV_snoc]; exact hown1)
        have Q5 : Hid ((topTo P (whoB P D ys) (j + 1)).length = s + 1) := Lib.hid (by rw [HN.out, List.length_append, HQ2.out]; rfl)
        have F5 := Lib.hid ((F4.out.alloc F4.out.size (.cells #[.int .i64 (j : Int)] 2)).grown hgrow (by simp; omega) (fun q e => by have := HZV.out q e; omega))
        clear hown1 hgrow hat hlt3
        go_wp2
        go_roundw
        case rel => exact ⟨j + 1, s + 1, _, by omega, by go_num, rfl, by omega, Q5, R5, F5⟩
        case measure => simp [intOf]; omega
      · have HV := Lib.hid hpx
        have HN : Hid (topTo P (whoB P D ys) (j + 1) = topTo P (whoB P D ys) j) := Lib.hid (topTo_no (topB_cut hX hpx))
        rw [hX] at hpj
        clear hX hpx hu
        go_wp2_with fail
        refine (HW1.out _ (H.out.on CC.out).b (I3.out.on HF2.out)).mono ?_
        rw [HU.out]
        rintro e w4 ⟨rfl, bb⟩
        have F3' := Lib.hid (below_trans' HF2.out bb)
        have C4 := Lib.hid (below_trans' CC.out bb)
        have R3' := Lib.hid (rowBelow HR2.out bb)
        obtain ⟨p0', p1'⟩ := (KK.out.on bb).cells
        clear p0 p1 hpj bb
        go_wp2_with fail
        refine (HW2.out _ (H.out.on C4.out).b (I3.out.on F3'.out)).mono ?_
        rw [HV.out]
        rintro e w6 ⟨rfl, bb⟩
        have F3 := Lib.hid (below_trans' F3'.out bb)
        have R3 := Lib.hid (rowBelow R3'.out bb)
        clear p0' p1' bb
        go_wp2
        go_roundw
        case rel => exact ⟨j + 1, s, _, by omega, by go_num, rfl, by omega, Lib.hid (by rw [HN.out]; exact HQ2.out), Lib.hid (by rw [HN.out]; exact R3.out), F3⟩
        case measure => simp [intOf]; omega
    · obtain rfl : j = n := by omega
      obtain ⟨A3, c3, e, ho, h1', h2'⟩ := rowInts HR2.out HQ2.out
      injection e with e1' e2' e3'
      subst e1'; subst e3'
      have HO := Lib.hid (ho.more C3.out.size (Nat.le_refl _) (Nat.le_refl _))
      have q9 : s ≤ 1048576 := by omega
      clear ho
      go_wp2
      go_ret2
      exact ⟨_, s, _, rfl, by rw [HD.out, HG.out]; exact HO.out, q9, h1', h2', CC.out⟩

end Go.Proofs.Ytnadcjclihflcaa
