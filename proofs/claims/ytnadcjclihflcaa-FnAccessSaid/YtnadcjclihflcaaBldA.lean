/- Ancestors, doors and heights of the model. -/
import Derived.Test.YtnadcjclihflcaaBldD
import Derived.Lib.MinMax
namespace Go.Proofs.Ytnadcjclihflcaa
open Go Go.RowKit

set_option maxRecDepth 100000 in
set_option maxHeartbeats 2000000 in
theorem l09Ancestors_any (A B : Option Addr) (n c k d X : Nat) (P : List Int) (D : List Bool) (w : World) (h : Bld w A n B k P D) (hT : Tree P) (n24 : n ≤ 24) (hxn : X < n) :
    Calls Try.prog 124 #[.agg #[.slice A n c, .slice B k d], .int .i64 (X : Int)] w (GivesOne w (ancI P X)) := by
  have c0 := (Below.refl w.heap.size w).alloc (Nat.le_refl _) (.cells #[.slice A n c, .slice B k d] 27)
  have K0 := Cell2.new w 27 (.slice A n c) (.slice B k d)
  have H := Lib.hid h
  have HL := Lib.hid H.out.ps.len
  have HT := Lib.hid hT
  have HAX : Hid (ancTail P (X : Int) = ancI P X) := Lib.hid (by unfold ancTail; rw [if_neg (by omega)]; rfl)
  have HA24 : Hid ((ancI P X).length ≤ 24) := Lib.hid (by unfold ancI; rw [List.length_map]; exact anc_short hT (by rw [HL.out]; exact hxn) (by rw [HL.out]; exact n24))
  obtain ⟨ii, hi0, hz0, hz1, hz2⟩ := info_parts Try.info2'
  have HF := Lib.hid (And.intro hi0 (And.intro hz0 (And.intro hz1 hz2)))
  have R2 := Lib.hid (rowNil (w := w.alloc (.cells #[.slice A n c, .slice B k d] 27)) (t := 2) (s := 1) (base := w.heap.size + 1) (by simp))
  rw [World.size_alloc] at R2
  have K1 := Lib.hid (K0.alloc (.cells #[] 2))
  have C1 := Lib.hid (c0.alloc (by simp) (.cells #[] 2))
  clear h hT hi0 hz0 hz1 hz2 c0 K0
  go_enter Try.func124, Try.ntmps124
  go_wp2
  go_loopw [1, 5] (fun v y wr => ∃ (z : Int) (q : Nat) (pv : Value) (pre : List Int), v = .int .i64 z ∧ y = pv ∧ (z = -1 ∨ 0 ≤ z ∧ z < n) ∧ Hid (pre ++ ancTail P z = ancI P X) ∧ Hid (pre.length = q) ∧ Hid (wr.ownsRow (w.heap.size + 1) 2 1 pv q (intsV pre)) ∧ Hid (Cell2 wr w.heap.size 27 (.slice A n c) (.slice B k d)) ∧ Hid (Below w.heap.size w wr)) (fun v _ _ => (intOf v + 1).toNat)
  case atStart => exact ⟨X, 0, _, [], rfl, rfl, .inr ⟨by omega, by omega⟩, Lib.hid (by rw [HAX.out]; rfl), Lib.hid rfl, R2, K1, C1⟩
  case round =>
    obtain ⟨z, q, pv, pre, rfl, rfl, hzr, HP, HQ, HR, HK, HB⟩ := hrel
    clear R2 K1 C1
    obtain ⟨A1, c1, rfl, _, _, _⟩ := rowInts HR.out HQ.out
    have hq24 : q ≤ 24 := by
      have h1 := HP.out
      have h2 := HA24.out
      rw [← h1, List.length_append, HQ.out] at h2
      omega
    by_cases hz1 : z = -1
    · subst hz1
      obtain ⟨A2, c2, e, ho, h1, h2⟩ := rowInts HR.out HQ.out
      injection e with e1 e2 e3
      subst e1; subst e3
      have HPE : Hid (pre = ancI P X) := Lib.hid (by rw [← HP.out]; unfold ancTail; simp)
      have HO := Lib.hid (ho.more (show w.heap.size ≤ w.heap.size + 1 by omega) (Nat.le_refl _) (Nat.le_refl _))
      rw [HPE.out] at HO
      have q1 : q ≤ 1048576 := by omega
      clear ho hzr
      go_wp2
      go_ret
      exact ⟨_, q, _, rfl, HO.out, q1, h1, h2, HB.out⟩
    · have hz2 : 0 ≤ z ∧ z < n := by omega
      obtain ⟨j, rfl⟩ := Int.eq_ofNat_of_zero_le hz2.1
      have hjn : j < n := by omega
      have HT2 := Lib.hid (ancTail_cons HT.out (i := j) (by rw [HL.out]; exact hjn))
      have HPR : Hid (par P j = -1 ∨ 0 ≤ par P j ∧ par P j < n) := Lib.hid (by
        rcases Nat.eq_zero_or_pos j with rfl | h0
        · exact .inl HT.out.root
        · have := HT.out.up j h0 (by rw [HL.out]; exact hjn); omega)
      have HPM : Hid (par P j < j) := Lib.hid (by
        rcases Nat.eq_zero_or_pos j with rfl | h0
        · rw [HT.out.root]; omega
        · have := HT.out.up j h0 (by rw [HL.out]; exact hjn); omega)
      have hszw := HB.out.size
      have hlk := HK.out.lt
      have HZV := Lib.hid (rowBase HR.out)
      obtain ⟨pa, rfl, _⟩ := H.out.par_at hjn
      have j0 : (0 : Int) ≤ (j : Int) := by omega
      clear hzr hz2
      go_upto_region 4 with (at_builtin; refine wpList_append_lies _ rfl _ _ 24 rfl (w.heap.size + 1) 2 ii _ 1 8 Try.underlying24 HF.out.1 HF.out.2.1 HF.out.2.2.1 HF.out.2.2.2 rfl (by omega) _ q _ rfl (rowBelow HR.out ((Below.refl _ _).alloc (Nat.le_refl _) _)) ⟨wr.heap.size, 0, none⟩ 1 1 [.int .i64 (j : Int)] rfl rfl (World.news_of_block (cs := #[.int .i64 (j : Int)]) (t := 2) (fr := (0, 0)) (heap_alloc_new wr _)) (by simp [Value.oneCell']) (by omega) (by unfold maxLen; omega) (by omega) (by simp; omega) (wr.heap.size + 1) (by simp) ?_; intro gg cap w5 hown1 hgrow hat hlt3)
      have R5 : Hid (w5.ownsRow (w.heap.size + 1) 2 1 (.slice (some ⟨gg, 0, none⟩) (q + 1) cap) (q + 1) (intsV (pre ++ [(j : Int)]))) := Lib.hid (by rw [← intsV_snoc]; exact hown1)
      have Q5 : Hid ((pre ++ [(j : Int)]).length = q + 1) := Lib.hid (by rw [List.length_append, HQ.out]; rfl)
      have K5 := Lib.hid ((HK.out.alloc (.cells #[.int .i64 (j : Int)] 2)).grown hgrow (fun e => by have := HZV.out _ e.symm; omega))
      have B5 := Lib.hid ((HB.out.alloc HB.out.size (.cells #[.int .i64 (j : Int)] 2)).grown hgrow (by simp; omega) (fun q e => by have := HZV.out q e; omega))
      have P5 : Hid ((pre ++ [(j : Int)]) ++ ancTail P (par P j) = ancI P X) := Lib.hid (by rw [← HP.out, HT2.out]; simp)
      clear hown1 hgrow hat hlt3
      obtain ⟨p0, p1⟩ := K5.out.cells
      obtain ⟨_, e, hpj⟩ := (H.out.on B5.out).par_at hjn
      injection e with e
      subst e
      obtain ⟨z2, hz2⟩ : ∃ z2, par P j = z2 := ⟨_, rfl⟩
      rw [hz2] at hpj P5 HPR HPM
      have i1 : (j : Int) < (n : Int) := by omega
      clear hz2
      go_wp2
      go_roundw
      case rel => exact ⟨z2, q + 1, _, _, rfl, rfl, HPR.out, P5, Q5, R5, K5, B5⟩
      case measure => have := HPM.out; have := HPR.out; simp [intOf]; omega

theorem specAncestorsOf_any (A B : Option Addr) (n c k d : Nat) (P : List Int) (D : List Bool) (x : Int) (w : World) (h : Bld w A n B k P D) (hn : n ≤ 1048576) (hk : k ≤ 1048576) :
    Calls Try.prog 73 #[.agg #[.slice A n c, .slice B k d], .int .i64 x] w (GivesList w (nodE P D x) (anL P D x)) := by
  have c0 := (Below.refl w.heap.size w).alloc (Nat.le_refl _) (.cells #[.slice A n c, .slice B k d] 27)
  have h0 := Lib.hid (h.on c0)
  have C0 := Lib.hid c0
  have H := Lib.hid h
  have K0 := Lib.hid (Cell2.new w 27 (.slice A n c) (.slice B k d))
  obtain ⟨p0, p1⟩ := K0.out.cells
  clear c0 h
  obtain ⟨z, hz⟩ : ∃ z, nodE P D x = z := ⟨_, rfl⟩
  have HZ := Lib.hid hz
  by_cases hz0 : z = 0
  rotate_left
  · have HD : Hid (anL P D x = []) := Lib.hid (by unfold anL; rw [hz, if_neg hz0])
    rw [hz, HD.out]
    have ht : (z != 0) = true := by simpa using hz0
    clear hz hz0
    go_enter Try.func73, Try.ntmps73
    go_wp2_with fail
    refine (l09Code_any A B n c k d P D x _ h0.out hn hk).mono ?_
    rw [HZ.out]
    rintro e w1 ⟨rfl, b1⟩
    have C1 := Lib.hid (C0.out.trans (b1.mono C0.out.size))
    clear b1 p0 p1
    go_wp2
    go_ret2
    exact ⟨none, 0, 0, rfl, Own.nil _ (Nat.le_refl _), by omega, by omega, by omega, C1.out⟩
  subst hz0
  obtain ⟨hB, hx0, hxn⟩ := nod_zero hz
  obtain ⟨hT, n2, n24, _⟩ := bld_tree hB
  have HL := Lib.hid H.out.ps.len
  rw [HL.out] at n2 n24 hxn
  have HT := Lib.hid hT
  obtain ⟨X, rfl⟩ := Int.eq_ofNat_of_zero_le hx0
  rw [Int.toNat_natCast] at hxn
  have HD : Hid (anL P D (X : Int) = ancI P X) := Lib.hid (by unfold anL; rw [hz, if_pos rfl]; rfl)
  rw [hz, HD.out]
  clear hz hx0 hB hT
  go_enter Try.func73, Try.ntmps73
  go_wp2_with fail
  refine (l09Code_any A B n c k d P D (X : Int) _ h0.out hn hk).mono ?_
  rw [HZ.out]
  rintro e w1 ⟨rfl, b1⟩
  have C1 := Lib.hid (C0.out.trans (b1.mono C0.out.size))
  obtain ⟨p0', p1'⟩ := (K0.out.on b1).cells
  clear b1 p0 p1
  go_wp2_with fail
  refine (l09Ancestors_any A B n c k d X P D _ (H.out.on C1.out) HT.out n24 hxn).mono ?_
  rintro e w2 ⟨A2, n2', c2, rfl, ho, h1, h2, h3, b2⟩
  have HO := Lib.hid (ho.widen C1.out.size)
  have C2 := Lib.hid (below_trans' C1.out b2)
  clear ho b2 p0' p1'
  go_wp2
  go_ret2
  exact ⟨_, _, _, rfl, HO.out, h1, h2, h3, C2.out⟩

set_option maxRecDepth 100000 in
set_option maxHeartbeats 2000000 in
theorem specHeightOf_any (A B : Option Addr) (n c k d : Nat) (P : List Int) (D : List Bool) (w : World) (h : Bld w A n B k P D) (hn : n ≤ 1048576) (hk : k ≤ 1048576) :
    Calls Try.prog 79 #[.agg #[.slice A n c, .slice B k d]] w fun e w' => e = .returned (.tuple #[.int .i64 (hgV P D), .int .i64 (bdE P D)]) ∧ Below w.heap.size w w' := by
  have c0 := (Below.refl w.heap.size w).alloc (Nat.le_refl _) (.cells #[.slice A n c, .slice B k d] 27)
  have h0 := Lib.hid (h.on c0)
  have C0 := Lib.hid c0
  have H := Lib.hid h
  have K0 := Lib.hid (Cell2.new w 27 (.slice A n c) (.slice B k d))
  obtain ⟨p0, p1⟩ := K0.out.cells
  clear c0 h
  rcases hb : bldB P D with _ | _
  · have HV : Hid (hgV P D = 0 ∧ bdE P D = 1) := Lib.hid (by unfold hgV bdE; rw [hb]; exact ⟨rfl, rfl⟩)
    rw [HV.out.1, HV.out.2]
    have HB := Lib.hid hb
    clear hb
    go_enter Try.func79, Try.ntmps79
    go_wp2_with fail
    refine (specIsBuilding_any A B n c k d P D _ h0.out hn hk).mono ?_
    rw [HB.out]
    rintro e w1 ⟨rfl, b1⟩
    have C1 := Lib.hid (C0.out.trans (b1.mono C0.out.size))
    clear b1 p0 p1
    go_wp2
    go_ret2
    exact ⟨rfl, C1.out⟩
  have HV : Hid (hgV P D = (higN P : Int) ∧ bdE P D = 0) := Lib.hid (by unfold hgV bdE; rw [hb]; exact ⟨rfl, rfl⟩)
  rw [HV.out.1, HV.out.2]
  have HB := Lib.hid hb
  obtain ⟨hT, n2, n24, _⟩ := bld_tree hb
  have HL := Lib.hid H.out.ps.len
  rw [HL.out] at n2 n24
  have HT := Lib.hid hT
  clear hb hT
  go_enter Try.func79, Try.ntmps79
  go_wp2_with fail
  refine (specIsBuilding_any A B n c k d P D _ h0.out hn hk).mono ?_
  rw [HB.out]
  rintro e w1 ⟨rfl, b1⟩
  have C1 := Lib.hid (C0.out.trans (b1.mono C0.out.size))
  have K1 := Lib.hid (K0.out.on b1)
  clear b1 p0 p1 C0 K0 h0
  go_wp2
  go_loopw [4, 5] (fun v x wr => ∃ (j m : Nat), j ≤ n ∧ x = .int .i64 j ∧ v = .int .i64 m ∧ m ≤ 24 ∧ Hid (m = maxTo (depN P) (fun _ => true) j) ∧ Hid (Cell2 wr w.heap.size 27 (.slice A n c) (.slice B k d)) ∧ Hid (Below w.heap.size w wr)) (fun _ x _ => n - (intOf x).toNat)
  case atStart => exact ⟨0, 0, Nat.zero_le _, rfl, rfl, by omega, Lib.hid rfl, K1, C1⟩
  case round =>
    obtain ⟨j, m, hj, rfl, rfl, hm, HM, HK, HB2⟩ := hrel
    clear K1 C1
    obtain ⟨p0, p1⟩ := HK.out.cells
    by_cases hlt : (j : Int) < (n : Int)
    · have hjn : j < n := by omega
      go_wp2_with fail
      refine (l09Ancestors_any A B n c k d j P D _ (H.out.on HB2.out) HT.out n24 hjn).mono ?_
      rintro e w2 ⟨A2, n2', c2, rfl, ho, h1, h2, h3, b2⟩
      have hN : n2' = depN P j := by rw [← ho.len]; unfold ancI depN; rw [List.length_map]
      have hd := dep_le HT.out j (by rw [HL.out]; exact hjn)
      have HS : Hid (max m n2' = maxTo (depN P) (fun _ => true) (j + 1)) := Lib.hid (by rw [hN, HM.out]; rfl)
      have hb24 : max m n2' ≤ 24 := by omega
      have hmx : max (m : Int) (n2' : Int) = ((max m n2' : Nat) : Int) := by omega
      have HB3 := Lib.hid (below_trans' HB2.out b2)
      have HK3 := Lib.hid (HK.out.on b2)
      obtain ⟨M2, hM2⟩ : ∃ M2, M2 = max m n2' := ⟨_, rfl⟩
      rw [← hM2] at HS hb24 hmx
      have HX := Lib.hid hM2
      clear ho b2 p0 p1 hN hd HM hM2
      go_wp2
      go_roundw
      case rel => exact ⟨j + 1, M2, by omega, by go_num, by first | rfl | (have := HX.out; go_num) | (have := HX.out; congr 1), hb24, HS, HK3, HB3⟩
      case measure => simp [intOf]; omega
    · obtain rfl : j = n := by omega
      have HG : Hid (higN P = m) := Lib.hid (by rw [HM.out]; unfold higN; rw [HL.out])
      go_wp2
      go_ret2
      exact ⟨by rw [HG.out]; rfl, HB2.out⟩

end Go.Proofs.Ytnadcjclihflcaa
