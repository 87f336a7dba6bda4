/- The model's ShortRights. -/
import Derived.Test.YtnadcjclihflcaaPlU
namespace Go.Proofs.Ytnadcjclihflcaa
open Go Go.RowKit

/-- is node xs[i] under one of the first t others -/
def overTo (P : List Int) (xs : List Int) (i t : Nat) : Bool := (List.range t).any fun k => k != i && und P (xs.getD k 0).toNat (xs.getD i 0).toNat
theorem overTo_all (P xs : List Int) (i : Nat) : overTo P xs i xs.length = overB P xs i := rfl
theorem overTo_step {P xs : List Int} {i t X Y : Nat} (hi : xs[i]? = some (X : Int)) (ht : xs[t]? = some (Y : Int)) : overTo P xs i (t + 1) = (overTo P xs i t || (t != i && und P Y X)) := by
  unfold overTo
  rw [List.range_succ, List.any_append, getD_of hi]
  simp only [List.any_cons, List.any_nil, Bool.or_false]
  rw [getD_of ht]
  rfl

set_option maxRecDepth 100000 in
set_option maxHeartbeats 2000000 in
theorem specShortRights_any (A B V : Option Addr) (n c k d q e0 : Nat) (P : List Int) (D : List Bool) (R : List (List Int)) (x : Int) (w : World) (h : Pl w A n B k V q P D R) (hn : n ≤ 1048576) (hk : k ≤ 1048576) (hq : q + sizeL R ≤ 1048576) :
    Calls Try.prog 38 #[.agg #[.slice A n c, .slice B k d, .slice V q e0], .int .i64 x] w (GivesList w (pkE P D R x) (srL P D R x)) := by
  have c0 := (Below.refl w.heap.size w).alloc (Nat.le_refl _) (.cells #[.slice A n c, .slice B k d, .slice V q e0] 30)
  have h0 := Lib.hid (h.on c0)
  have C0 := Lib.hid c0
  have K0 := Lib.hid (Cell3.new w 30 (.slice A n c) (.slice B k d) (.slice V q e0))
  have H := Lib.hid h
  have HP := Lib.hid h.b.ps.len
  have HR := Lib.hid h.r.len
  have HQ := Lib.hid hq
  obtain ⟨p0, p1, p2⟩ := K0.out.cells
  clear c0 h
  obtain ⟨z, hz⟩ : ∃ z, pkE P D R x = z := ⟨_, rfl⟩
  have HZ := Lib.hid hz
  by_cases hz0 : z = 0
  rotate_left
  · have HD : Hid (srL P D R x = []) := Lib.hid (by unfold srL; rw [hz, if_neg hz0])
    have ht : (z != 0) = true := by simpa using hz0
    rw [hz, HD.out]
    clear hz hz0
    go_enter Try.func38, Try.ntmps38
    go_wp2_with fail
    refine (l10Code_any A B V n c k d q e0 P D R x _ h0.out hn hk HQ.out).mono ?_
    rw [HZ.out]
    rintro e w1 ⟨rfl, b1⟩
    have C1 := Lib.hid (below_trans' C0.out b1)
    clear b1 p0 p1 p2
    go_wp2
    go_ret2
    exact ⟨none, 0, 0, rfl, Own.nil _ (Nat.le_refl _), by omega, by omega, by omega, C1.out⟩
  subst hz0
  obtain ⟨hp, K, rfl, hK⟩ := pk_zero H.out.r.len hz
  obtain ⟨hT, n2, n24, hkn, q1', q10, hrig, hr⟩ := plan_facts H.out hp
  have HT := Lib.hid hT
  have HKN := Lib.hid hkn
  have HRR := Lib.hid hr
  have HRG := Lib.hid hrig
  have HPL := Lib.hid hp
  have HX : Hid (riN R (K : Int) = R.getD K []) := Lib.hid rfl
  have i0 : (0 : Int) ≤ (K : Int) := by omega
  have i1 : (K : Int) < (q : Int) := by omega
  have HC0 := Lib.hid hz
  rw [hz]
  clear hz hp hT hkn hr hrig
  have HD : Hid (srL P D R (K : Int) = topTo P (anyU P (R.getD K [])) n) := Lib.hid (by unfold srL; rw [HC0.out, if_pos rfl, HP.out]; rfl)
  obtain ⟨ii, hi0, hz0, hz1, hz2⟩ := info_parts Try.info2'
  have HF := Lib.hid (And.intro hi0 (And.intro hz0 (And.intro hz1 hz2)))
  clear hi0 hz0 hz1 hz2
  go_enter Try.func38, Try.ntmps38
  go_wp2_with fail
  refine (l10Code_any A B V n c k d q e0 P D R (K : Int) _ h0.out hn hk HQ.out).mono ?_
  rw [HZ.out]
  rintro e w1 ⟨rfl, b1⟩
  have C1 := Lib.hid (below_trans' C0.out b1)
  have K1 := Lib.hid (K0.out.on b1)
  clear b1 p0 p1 p2 K0 h0 C0
  obtain ⟨p0, p1, p2⟩ := K1.out.cells
  obtain ⟨ad, ys, A2, q2', c2, rfl, hab, hy, hc, hi, _, _⟩ := (H.out.on C1.out).r.at_ hK
  have HG : Hid (R.getD K [] = ys) := Lib.hid (getD_list hy)
  have HI := Lib.hid hi
  have HCC := Lib.hid hc
  have HAB := Lib.hid hab
  have HY0 : Hid (∀ x ∈ ys, 0 ≤ x ∧ x < n) := Lib.hid (fun x hx => HRR.out K hK x (by rw [getD_list hy]; exact hx))
  have HYR : Hid (rigB n ys = true) := Lib.hid (by rw [← getD_list hy]; exact HRG.out K hK)
  have hq2 : q2' ≤ 1048576 := by have := fits_at HQ.out hy; have := hi.len; omega
  clear hy hi hab
  have HTS : Hid (shortTo P ys ys.length = topTo P (anyU P ys) n) := Lib.hid (by
    have := top_short HT.out (xs := ys) (by rw [HP.out]; exact HYR.out)
    rw [HP.out] at this
    exact this)
  have hqn : q2' ≤ 24 := by
    have h1 := rig_len HYR.out
    rw [HI.out.len] at h1
    omega
  have R2 := Lib.hid (rowNil (w := w1) (t := 2) (s := 1) (base := w1.heap.size) (Nat.le_refl _))
  have F2 := Lib.hid ((Below.refl w1.heap.size w1).alloc (Nat.le_refl _) (.cells #[] 2))
  go_wp2
  clear p0 p1 p2 hc
  go_loopw [8, 9] (fun y x wr => ∃ (j s : Nat) (pv : Value), j ≤ q2' ∧ x = .int .i64 j ∧ y = pv ∧ s ≤ j ∧ Hid ((shortTo P ys j).length = s) ∧ Hid (wr.ownsRow w1.heap.size 2 1 pv s (intsV (shortTo P ys j))) ∧ Hid (Below w1.heap.size w1 wr)) (fun _ x _ => q2' - (intOf x).toNat)
  case atStart => exact ⟨0, 0, _, Nat.zero_le _, rfl, rfl, Nat.le_refl _, Lib.hid rfl, R2, F2⟩
  case round =>
    obtain ⟨j, s, pv, hj, rfl, rfl, hs, HQ2, HR2, HF2⟩ := hrel
    clear R2 F2
    obtain ⟨A1, c1, rfl, _, _, _⟩ := rowInts HR2.out HQ2.out
    by_cases hlt : j < q2'
    · obtain ⟨bd, v, rfl, hdb, hv, hdv⟩ := (HI.out.on HF2.out).at_ hlt
      obtain ⟨X, rfl⟩ := Int.eq_ofNat_of_zero_le (HY0.out v (List.mem_of_getElem? hv)).1
      have hX : X < n := by have := (HY0.out _ (List.mem_of_getElem? hv)).2; omega
      have HV := Lib.hid hv
      have i2 : (0 : Int) ≤ (j : Int) := by omega
      have i3 : (j : Int) < (q2' : Int) := by omega
      clear hv hdb hdv
      have B0 := Lib.hid (Below.refl wr.heap.size wr)
      go_wp2
      go_loopw [10, 11] (fun b x wi => ∃ (t : Nat) (bv : Bool), t ≤ q2' ∧ x = .int .i64 t ∧ b = .bool bv ∧ Hid (overTo P ys j t = bv) ∧ Hid (Below wr.heap.size wr wi)) (fun _ x _ => q2' - (intOf x).toNat)
      case atStart => exact ⟨0, false, Nat.zero_le _, rfl, rfl, Lib.hid rfl, B0⟩
      case round =>
        obtain ⟨t, bv, ht, rfl, rfl, HAN, HBI⟩ := hrel
        clear B0
        have FI := Lib.hid (below_trans' HF2.out HBI.out)
        have CI := Lib.hid (below_trans' C1.out FI.out)
        have KI := Lib.hid (K1.out.on FI.out)
        obtain ⟨p0, p1, p2⟩ := KI.out.cells
        obtain ⟨_, v', e, hdb, hv', hdj⟩ := (HI.out.on FI.out).at_ hlt
        injection e with e
        subst e
        obtain rfl : (X : Int) = v' := by have := HV.out; rw [this] at hv'; injection hv'
        have HDB := Lib.hid hdb
        have HDJ := Lib.hid hdj
        clear hdb hv'
        by_cases hlt2 : t < q2'
        · obtain ⟨_, v', e, hdb, hv', hdt⟩ := (HI.out.on FI.out).at_ hlt2
          injection e with e
          subst e
          obtain ⟨Y, rfl⟩ := Int.eq_ofNat_of_zero_le (HY0.out v' (List.mem_of_getElem? hv')).1
          have HDT := Lib.hid hdt
          have HN := Lib.hid (overTo_step (P := P) HV.out hv')
          have i4 : (0 : Int) ≤ (t : Int) := by omega
          have i5 : (t : Int) < (q2' : Int) := by omega
          have hY : 0 ≤ (Y : Int) := by omega
          clear hdb hv'
          rcases bv with _ | _
          · by_cases htj : t = j
            · subst htj
              rw [HAN.out] at HN
              have HN2 : Hid (overTo P ys t (t + 1) = false) := Lib.hid (by rw [HN.out]; simp)
              have dne : ((t : Int) != (t : Int)) = false := by simp
              clear HN
              go_wp2
              go_quiet (fail)
              clear p0 p1 p2 hdj hdt
              go_wp2
              go_roundw
              case rel => exact ⟨t + 1, false, by omega, by go_num, rfl, HN2, Lib.hid (below_drewN HBI.out _)⟩
              case measure => simp [intOf]; omega
            · have dne : ((t : Int) != (j : Int)) = true := by simp; omega
              have dne2 : (t != j) = true := by simpa using htj
              rw [HAN.out, dne2, Bool.false_or, Bool.true_and] at HN
              clear dne2
              rcases hu : und P Y X with _ | _
              all_goals
                have HU := Lib.hid hu
                rw [hu] at HN
                clear hu
                go_wp2
                go_region_held3 (fun w' => w'.cell? ⟨w.heap.size, 0, none⟩ = some (.slice A n c) ∧ w'.cell? ⟨w.heap.size, 1, none⟩ = some (.slice B k d) ∧ w'.cell? (bd.add j) = some (.int .i64 ((X : Nat) : Int)) ∧ w'.cell? (bd.add t) = some (.int .i64 ((Y : Nat) : Int)))
                  (first
                    | go_keep
                    | (with_reducible exact E1.out))
                  (first | (go_at_call 99; refine (l09Under_any A B n c k d X (Y : Int) P D _ (H.out.on (below_drewN CI.out 1)).b HT.out hn hX hY).mono ?_; rw [Int.toNat_natCast, HU.out]; rintro e w4 ⟨rfl, b4⟩; have bb := below_trans' (below_drewN (Below.refl _ _) 1) b4; have B3 := Lib.hid (below_trans' HBI.out bb); have E1 := Lib.hid (And.intro (KI.out.on bb).cells.1 (And.intro (KI.out.on bb).cells.2.1 (And.intro ((bb.cell (by rw [block_of_add]; exact HDB.out)).trans HDJ.out) ((bb.cell (by rw [block_of_add]; exact HDB.out)).trans HDT.out))))))
                all_goals
                  clear p0 p1 p2 hdj hdt
                  go_wp2
                  go_roundw
                  case rel => exact ⟨t + 1, _, by omega, by go_num, rfl, HN, B3⟩
                  case measure => simp [intOf]; omega
          · rw [HAN.out, Bool.true_or] at HN
            go_wp2
            go_quiet (fail)
            clear p0 p1 p2 hdj hdt
            go_wp2
            go_roundw
            case rel => exact ⟨t + 1, true, by omega, by go_num, rfl, HN, Lib.hid (below_drewN HBI.out _)⟩
            case measure => simp [intOf]; omega
        · obtain rfl : t = q2' := by omega
          have HOV : Hid (overB P ys j = bv) := Lib.hid (by rw [← overTo_all, HI.out.len]; exact HAN.out)
          have HGJ : Hid (ys.getD j 0 = (X : Int)) := Lib.hid (getD_of HV.out)
          have R3 := Lib.hid (rowBelow HR2.out HBI.out)
          rcases bv with _ | _
          · have HN : Hid (shortTo P ys (j + 1) = shortTo P ys j ++ [(X : Int)]) := Lib.hid (by rw [shortTo_yes HOV.out, HGJ.out])
            have hszw := FI.out.size
            have HZV := Lib.hid (rowBase R3.out)
            go_wp2_with (at_builtin; refine wpList_append_lies _ rfl _ _ 24 rfl w1.heap.size 2 ii _ 1 8 Try.underlying24 HF.out.1 HF.out.2.1 HF.out.2.2.1 HF.out.2.2.2 rfl (by omega) _ s _ rfl (rowBelow R3.out ((Below.refl _ _).alloc (Nat.le_refl _) _)) ⟨wr.heap.size, 0, none⟩ 1 1 [.int .i64 (X : Int)] rfl rfl (World.news_of_block (cs := #[.int .i64 (X : Int)]) (t := 2) (fr := (0, 0)) (heap_alloc_new wr _)) (by simp [Value.oneCell']) (by omega) (by unfold maxLen; omega) (by omega) (by simp; omega) (wr.heap.size + 1) (by simp) ?_; intro gg cap w5 hown1 hgrow hat hlt3)
            have R5 : Hid (w5.ownsRow w1.heap.size 2 1 (.slice (some ⟨gg, 0, none⟩) (s + 1) cap) (s + 1) (intsV (shortTo P ys (j + 1)))) := Lib.hid (by rw [HN.out, ← intsV_snoc]; exact hown1)
            have Q5 : Hid ((shortTo P ys (j + 1)).length = s + 1) := Lib.hid (by rw [HN.out, List.length_append, HQ2.out]; rfl)
            have F5 := Lib.hid ((FI.out.alloc FI.out.size (.cells #[.int .i64 (X : Int)] 2)).grown hgrow (by simp; omega) (fun q e => by have := HZV.out q e; omega))
            clear hown1 hgrow hat hlt3
            go_wp2
            go_roundw
            case rel => exact ⟨j + 1, s + 1, _, by omega, by go_num, rfl, by omega, Q5, R5, F5⟩
            case measure => simp [intOf]; omega
          · have HN : Hid (shortTo P ys (j + 1) = shortTo P ys j) := Lib.hid (shortTo_no HOV.out)
            go_wp2
            go_roundw
            case rel => exact ⟨j + 1, s, _, by omega, by go_num, rfl, by omega, Lib.hid (by rw [HN.out]; exact HQ2.out), Lib.hid (by rw [HN.out]; exact R3.out), FI⟩
            case measure => simp [intOf]; omega
    · obtain rfl : j = q2' := by omega
      have CC := Lib.hid (below_trans' C1.out HF2.out)
      obtain ⟨A4, c4, e, ho, h1', h2'⟩ := rowInts HR2.out HQ2.out
      injection e with e1' e2' e3'
      subst e1'; subst e3'
      have HO := Lib.hid (ho.more C1.out.size (Nat.le_refl _) (Nat.le_refl _))
      have HEQ : Hid (shortTo P ys j = srL P D R (K : Int)) := Lib.hid (by
        have h1 := HTS.out
        rw [HI.out.len] at h1
        rw [h1, HD.out, HG.out])
      have q9 : s ≤ 1048576 := by omega
      clear ho
      go_wp2
      go_ret2
      exact ⟨_, s, _, rfl, by rw [← HEQ.out]; exact HO.out, q9, h1', h2', CC.out⟩

end Go.Proofs.Ytnadcjclihflcaa
