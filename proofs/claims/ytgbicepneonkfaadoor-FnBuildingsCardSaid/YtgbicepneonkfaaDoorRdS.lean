/- ReadBuilding of the model. -/
import Derived.Test.YtgbicepneonkfaaDoorRdB
import Derived.Test.YtgbicepneonkfaaDoorDrawB
namespace Go.Proofs.YtgbicepneonkfaaDoor
open Go Go.RowKit

/-- parents and doors as they grow: two rows in blocks of their own -/
structure Duo (w : World) (base : Nat) (x y : Value) (jp jd : Nat) (P : List Int) (D : List Bool) : Prop where
  r1 : ∃ g1 c1, x = .slice (some ⟨g1, 0, none⟩) jp c1 ∧ w.ownsRow base 2 1 (.slice (some ⟨g1, 0, none⟩) jp c1) jp (listI P)
  r2 : ∃ g2 c2, y = .slice (some ⟨g2, 0, none⟩) jd c2 ∧ w.ownsRow base 4 1 (.slice (some ⟨g2, 0, none⟩) jd c2) jd (boolsV D)
  n12 : x.ownBlock ≠ y.ownBlock
  lp : P.length = jp
  ld : D.length = jd
theorem Duo.below {w w' : World} {base : Nat} {x y : Value} {jp jd : Nat} {P : List Int} {D : List Bool} (h : Duo w base x y jp jd P D) (b : Below w.heap.size w w') : Duo w' base x y jp jd P D := by
  obtain ⟨⟨g1, c1, e1, o1⟩, ⟨g2, c2, e2, o2⟩, a, d, e⟩ := h
  exact ⟨⟨g1, c1, e1, rowBelow o1 b⟩, ⟨g2, c2, e2, rowBelow o2 b⟩, a, d, e⟩
theorem Duo.alloc {w : World} {base : Nat} {x y : Value} {jp jd : Nat} {P : List Int} {D : List Bool} (h : Duo w base x y jp jd P D) (o : Obj) : Duo (w.alloc o) base x y jp jd P D := h.below ((Below.refl w.heap.size w).alloc (Nat.le_refl _) o)
theorem Duo.pushP {w w' : World} {base : Nat} {x y : Value} {jp jd gg cap : Nat} {P : List Int} {D : List Bool} {v : Int} (h : Duo w base x y jp jd P D) (ho : w'.ownsRow base 2 1 (.slice (some ⟨gg, 0, none⟩) (jp + 1) cap) (jp + 1) (listI P ++ [.int .i64 v])) (hg : w.grownBy w' x.ownBlock) (ha : x.ownBlock = some gg ∨ w.heap.size ≤ gg) : Duo w' base (.slice (some ⟨gg, 0, none⟩) (jp + 1) cap) y (jp + 1) jd (P ++ [v]) D := by
  obtain ⟨⟨g1, c1, e1, o1⟩, ⟨g2, c2, e2, o2⟩, a, d, e⟩ := h
  subst e1; subst e2
  rw [own_slice] at *
  have k2 := rowAt o2
  refine ⟨⟨gg, cap, rfl, by rw [← listI_snoc]; exact ho⟩, ⟨g2, c2, rfl, rowPastB o2 hg a⟩, ?_, by simp [d], e⟩
  rw [own_slice, own_slice]; intro e'; injection e' with e'; subst e'
  rcases ha with ha | ha
  · exact a ha
  · omega
theorem Duo.pushD {w w' : World} {base : Nat} {x y : Value} {jp jd gg cap : Nat} {P : List Int} {D : List Bool} {v : Bool} (h : Duo w base x y jp jd P D) (ho : w'.ownsRow base 4 1 (.slice (some ⟨gg, 0, none⟩) (jd + 1) cap) (jd + 1) (boolsV D ++ [.bool v])) (hg : w.grownBy w' y.ownBlock) (ha : y.ownBlock = some gg ∨ w.heap.size ≤ gg) : Duo w' base x (.slice (some ⟨gg, 0, none⟩) (jd + 1) cap) jp (jd + 1) P (D ++ [v]) := by
  obtain ⟨⟨g1, c1, e1, o1⟩, ⟨g2, c2, e2, o2⟩, a, d, e⟩ := h
  subst e1; subst e2
  rw [own_slice] at *
  have k1 := rowAt o1
  refine ⟨⟨g1, c1, rfl, rowPastB o1 hg (Ne.symm a)⟩, ⟨gg, cap, rfl, by rw [← boolsV_snoc]; exact ho⟩, ?_, d, by simp [e]⟩
  rw [own_slice, own_slice]; intro e'; injection e' with e'; subst e'
  rcases ha with ha | ha
  · exact a ha.symm
  · omega
theorem Duo.new {w : World} {base : Nat} (hb : base ≤ w.heap.size) (v : Int) (b : Bool) : Duo ((w.alloc (.cells #[.int .i64 v] 2)).alloc (.cells #[.bool b] 4)) base (.slice (some ⟨w.heap.size, 0, none⟩) 1 1) (.slice (some ⟨w.heap.size + 1, 0, none⟩) 1 1) 1 1 [v] [b] := by
  have o1 := rowOne (w := w) (base := base) (t := 2) (.int .i64 v) hb
  have o2 := rowOne (w := w.alloc (.cells #[.int .i64 v] 2)) (base := base) (t := 4) (.bool b) (by simp; omega)
  simp only [World.size_alloc] at o2
  refine ⟨⟨_, _, rfl, rowBelow o1 ((Below.refl _ _).alloc (Nat.le_refl _) _)⟩, ⟨_, _, rfl, o2⟩, ?_, rfl, rfl⟩
  rw [own_slice, own_slice]; intro e; injection e with e; omega
theorem Duo.own {w : World} {base m g1 c1 g2 c2 : Nat} {P : List Int} {D : List Bool} (h : Duo w base (.slice (some ⟨g1, 0, none⟩) m c1) (.slice (some ⟨g2, 0, none⟩) m c2) m m P D) : BOwn w base w.heap.size (some ⟨g1, 0, none⟩) m (some ⟨g2, 0, none⟩) m P D := by
  obtain ⟨⟨_, _, e1, o1⟩, ⟨_, _, e2, o2⟩, a, d, e⟩ := h
  injection e1 with e1 _ e3
  injection e1 with e1
  injection e1 with e1
  subst e1; subst e3
  injection e2 with e2 _ e4
  injection e2 with e2
  injection e2 with e2
  subst e2; subst e4
  refine ⟨(rowIntsAt (xs := P) o1 d).1, (rowBoolsAt (xs := D) o2 e).1, fun a' b' _ _ ea eb => ?_⟩
  injection ea with ea
  injection eb with eb
  subst ea; subst eb
  intro e'
  rw [own_slice, own_slice] at a
  exact a (congrArg some e')
theorem l01Split_space (s : ByteArray) (w : World) (hs : s.size ≤ 1048576) :
    Calls Tryd.prog 44 #[.string s, .int .u8 32] w (GivesStrs w (cutL 32 s.data.toList)) := l01Split_any s 32 w hs

/-- what a call answers that gives a building of its own and a code -/
def GivesBldC (w : World) (P : List Int) (D : List Bool) (c : Int) (e : Ending) (w' : World) : Prop :=
  ∃ A n ca B k cb, e = .returned (.tuple #[.agg #[.slice A n ca, .slice B k cb], .int .i64 c]) ∧ BOwn w' w.heap.size w'.heap.size A n B k P D ∧ n ≤ 24 ∧ k ≤ 24 ∧ Below w.heap.size w w'
/-- a building of nothing -/
theorem BOwn.none {w : World} {lo : Nat} : BOwn w lo w.heap.size none 0 none 0 [] [] := ⟨Own.nil _ (Nat.le_refl _), OwnB.nil _ (Nat.le_refl _), fun _ _ h => absurd h (by omega)⟩

set_option maxRecDepth 100000 in
set_option maxHeartbeats 4000000 in
theorem specReadBuilding_any (s : ByteArray) (w : World) (hs : s.size ≤ 1048576) :
    Calls Tryd.prog 14 #[.string s] w (GivesBldC w (rdP s.data.toList) (rdD s.data.toList) (rdC s.data.toList)) := by
  obtain ⟨ii, hi0, hz0, hz1, hz2⟩ := info_parts Tryd.info2'
  have HF := Lib.hid (And.intro hi0 (And.intro hz0 (And.intro hz1 hz2)))
  clear hi0 hz0 hz1 hz2
  obtain ⟨jj, hi0, hz0, hz1, hz2⟩ := info_parts Tryd.info4'
  have HJ := Lib.hid (And.intro hi0 (And.intro hz0 (And.intro hz1 hz2)))
  clear hi0 hz0 hz1 hz2
  have K0 := Lib.hid (Cell2.new w 27 (.slice none 0 0) (.slice none 0 0))
  have C0 := Lib.hid ((Below.refl w.heap.size w).alloc (Nat.le_refl _) (.cells #[.slice none 0 0, .slice none 0 0] 27))
  have HC := Lib.hid (cut_count 32 s.data.toList)
  have HN : Hid ((cutL 32 s.data.toList).length ≤ 1048577) := Lib.hid (by
    rw [HC.out]
    have := List.count_le_length (a := (32 : UInt8)) (l := s.data.toList)
    rw [bytes_len] at this
    omega)
  go_enter Tryd.func14, Tryd.ntmps14
  go_wp2_with fail
  refine (l01Split_space _ _ hs).mono ?_
  rintro e w1 ⟨v, ps, rfl, hown, hps, hb⟩
  have hl : ps.length = (cutL 32 s.data.toList).length := by rw [← hps]; unfold bytesOf; rw [List.length_map]
  have hpos : 0 < ps.length := by rw [hl, HC.out]; omega
  have hn : ps.length ≤ 1048577 := by rw [hl]; exact HN.out
  obtain ⟨g, cap, rfl, hg1, hg2⟩ := hown.form hpos
  have HO := Lib.hid hown
  have HP := Lib.hid hps
  have HL := Lib.hid hl
  have K1 := Lib.hid (K0.out.on hb)
  have C1 := Lib.hid (below_trans' C0.out hb)
  have lk1 := K1.out.lt
  have T1 := Lib.hid (Duo.new (w := w1) (Nat.le_refl _) (-1) false)
  have HB1 := Lib.hid ((((Below.refl w1.heap.size w1).alloc (Nat.le_refl _) (.cells #[.int .i64 (-1)] 2))).alloc (by simp) (.cells #[.bool false] 4))
  have K2 := Lib.hid ((K1.out.alloc (.cells #[.int .i64 (-1)] 2)).alloc (.cells #[.bool false] 4))
  clear hown hps hb hl K0 C0 K1
  go_wp2
  go_loopw [5, 6, 7] (fun x y i wr => ∃ k : Nat, k ≤ ps.length ∧ i = .int .i64 k ∧ Hid (Duo wr w1.heap.size x y (k + 1) (k + 1) (prK s.data.toList k) (drK s.data.toList k)) ∧ Hid (∀ u ∈ (cutL 32 s.data.toList).take k, 2 ≤ u.length ∧ rdB u.dropLast = true) ∧ Hid (Cell2 wr w.heap.size 27 (.slice none 0 0) (.slice none 0 0)) ∧ Hid (Below w1.heap.size w1 wr)) (fun _ _ i _ => ps.length - (intOf i).toNat)
  case atStart => exact ⟨0, Nat.zero_le _, rfl, T1, Lib.hid (by intro u hu; simp at hu), K2, HB1⟩
  case round =>
    obtain ⟨k, hk, rfl, HT, HA, HK, HB⟩ := hrel
    clear T1 K2 HB1
    obtain ⟨g1, c1, rfl, _⟩ := HT.out.r1
    obtain ⟨g2, c2, rfl, _⟩ := HT.out.r2
    have hbs := HB.out.size
    by_cases hlt : k < ps.length
    · obtain ⟨g', cap', p, e, _, hg', hp, hc⟩ := str_cell HO.out rfl hlt
      obtain rfl : g = g' := by
        have := congrArg Value.ownBlock e
        simpa [Value.ownBlock] using this
      clear e
      have hcr : wr.cell? ⟨g, k, none⟩ = some (.string p) := (HB.out.cell (p := ⟨g, k, none⟩) hg').trans hc
      have HW := Lib.hid (bytes_at HP.out hp)
      have HPL := Lib.hid (bytes_len p)
      have HPS : Hid (p.size ≤ 1048576) := Lib.hid (by have := cut_len 32 _ s.data.toList (Nat.le_refl _) _ (List.mem_of_getElem? HW.out); rw [HPL.out, bytes_len] at this; omega)
      have hps := HPS.out
      clear hp
      by_cases h2 : p.size < 2
      · have h3 : (p.size : Int) - 1 < 1 := by omega
        have HY := Lib.hid (rd_no (rd_bad HW.out (by unfold goodW; rw [decide_eq_false (by rw [HPL.out]; omega)]; rfl)))
        have f0 := HK.out.thawed 0
        have f1 := HK.out.thawed 1
        obtain ⟨p0, p1⟩ := HK.out.cells
        go_wp2
        clear f0 f1 p0 p1
        have R := ((HK.out.put0 (.slice none 0 0)).put1 (.slice none 0 0)).cells
        have s5 : (wr).grownBy (((wr).setCell ⟨w.heap.size, 0, none⟩ (.slice none 0 0)).setCell ⟨w.heap.size, 1, none⟩ (.slice none 0 0)) (some w.heap.size) := grown_set (p := ⟨w.heap.size, 1, none⟩) (grown_set (p := ⟨w.heap.size, 0, none⟩) (World.grownBy.refl _ _) rfl _) rfl _
        rw [HY.out.1, HY.out.2.1, HY.out.2.2]
        exact bodyPost_ret (v := .tuple #[.agg #[.slice none 0 0, .slice none 0 0], .int .i64 6]) (by simp [results, Tryd.results14, go_sem, R.1, R.2]) rfl ⟨_, _, _, _, _, _, rfl, BOwn.none, by omega, by omega, below_grown (below_trans' C1.out HB.out) s5 (fun g e => by injection e with e; omega)⟩
      · have h3 : ¬ (p.size : Int) - 1 < 1 := by omega
        obtain ⟨q, hq⟩ : ∃ q, p.size = q + 1 := ⟨p.size - 1, by omega⟩
        have HX : Hid ((p.extract 0 q).data.toList = p.data.toList.dropLast) := Lib.hid (by
          rw [Lib.extract_data, List.drop_zero, List.dropLast_eq_take, HPL.out, hq]; rfl)
        rcases hr : rdB p.data.toList.dropLast with _ | _
        · have HR := Lib.hid hr
          have HY := Lib.hid (rd_no (rd_bad HW.out (by unfold goodW rdM; rw [hr]; simp)))
          clear hr
          go_wp2_with fail
          refine (l01Value_any _ _).mono ?_
          rw [HX.out]
          rintro e w2 ⟨rfl, b2⟩
          rw [HR.out]
          have KZ := Lib.hid (HK.out.on b2)
          have BZ := Lib.hid (below_trans' HB.out b2)
          clear b2
          have f0 := KZ.out.thawed 0
          have f1 := KZ.out.thawed 1
          obtain ⟨p0, p1⟩ := KZ.out.cells
          go_wp2
          clear f0 f1 p0 p1
          have R := ((KZ.out.put0 (.slice none 0 0)).put1 (.slice none 0 0)).cells
          have s5 : (w2).grownBy (((w2).setCell ⟨w.heap.size, 0, none⟩ (.slice none 0 0)).setCell ⟨w.heap.size, 1, none⟩ (.slice none 0 0)) (some w.heap.size) := grown_set (p := ⟨w.heap.size, 1, none⟩) (grown_set (p := ⟨w.heap.size, 0, none⟩) (World.grownBy.refl _ _) rfl _) rfl _
          rw [HY.out.1, HY.out.2.1, HY.out.2.2]
          exact bodyPost_ret (v := .tuple #[.agg #[.slice none 0 0, .slice none 0 0], .int .i64 6]) (by simp [results, Tryd.results14, go_sem, R.1, R.2]) rfl ⟨_, _, _, _, _, _, rfl, BOwn.none, by omega, by omega, below_grown (below_trans' C1.out BZ.out) s5 (fun g e => by injection e with e; omega)⟩
        · have HR := Lib.hid hr
          have HV := Lib.hid (rd_val hr)
          clear hr
          go_wp2_with fail
          refine (l01Value_any _ _).mono ?_
          rw [HX.out]
          rintro e w2 ⟨rfl, b2⟩
          rw [HR.out, HV.out]
          have T2 := Lib.hid (HT.out.below b2)
          have K2 := Lib.hid (HK.out.on b2)
          have B2 := Lib.hid (below_trans' HB.out b2)
          have hcr2 : w2.cell? ⟨g, k, none⟩ = some (.string p) := (b2.cell (p := ⟨g, k, none⟩) (Nat.lt_of_lt_of_le hg' hbs)).trans hcr
          have s2 := b2.size
          clear b2 HT HK HB hcr
          obtain ⟨_, _, e, o1⟩ := T2.out.r1
          injection e with e1 e2 e3
          injection e1 with e1
          injection e1 with e1
          subst e1; subst e3
          have O1 := Lib.hid o1
          have l1 := rowAt o1
          clear o1
          go_upto_region 13 with (at_builtin; refine wpList_append_lies _ rfl _ _ 24 rfl w1.heap.size 2 ii _ 1 8 Tryd.underlying24 HF.out.1 HF.out.2.1 HF.out.2.2.1 HF.out.2.2.2 rfl (by omega) _ _ _ rfl (rowBelow O1.out ((Below.refl _ _).alloc (Nat.le_refl _) _)) ⟨w2.heap.size, 0, none⟩ 1 1 [.int .i64 (valD p.data.toList.dropLast)] rfl rfl (World.news_of_block (cs := #[.int .i64 (valD p.data.toList.dropLast)]) (t := 2) (fr := (0, 0)) (heap_alloc_new w2 _)) (by simp [Value.oneCell']) (by omega) (by unfold maxLen; omega) (by omega) (by simp; omega) (w2.heap.size + 1) (by simp) ?_; intro gg cap w3 hown1 hgrow hat hlt3)
          have TA := Lib.hid ((T2.out.alloc (.cells #[.int .i64 (valD p.data.toList.dropLast)] 2)).pushP hown1 hgrow (hat.imp id (fun e => by rw [e]; simp)))
          have KA := Lib.hid ((K2.out.alloc (.cells #[.int .i64 (valD p.data.toList.dropLast)] 2)).grown hgrow (fun e => by (have e2 : some w.heap.size = some g1 := e); injection e2 with e2; omega))
          have BA := Lib.hid (below_grown (B2.out.alloc (by omega) (.cells #[.int .i64 (valD p.data.toList.dropLast)] 2)) hgrow (fun k e => by (have e2 : some g1 = some k := e); injection e2 with e2; omega))
          have hcr3 : w3.cell? ⟨g, k, none⟩ = some (.string p) := (BA.out.cell (p := ⟨g, k, none⟩) hg').trans (by assumption)
          clear hown1 hgrow hat hlt3 T2 K2 B2 O1 hcr2
          have hqs : q < p.size := by omega
          obtain ⟨bb, hbb⟩ : ∃ bb, ((p[q].toNat : Int) == 100) = bb := ⟨_, rfl⟩
          have HBB := Lib.hid hbb
          have HWD : Hid (wDor p.data.toList = bb) := Lib.hid (by
            rw [← hbb]
            unfold wDor
            rw [List.getLast?_eq_getElem?, HPL.out, show p.size - 1 = q by omega, List.getElem?_eq_getElem (by rw [HPL.out]; exact hqs)]
            have e : p.data.toList[q]'(by rw [HPL.out]; exact hqs) = p[q] := rfl
            rw [e]
            generalize p[q] = x
            by_cases hx : x = 100
            · subst hx; rfl
            · have h1 : ¬ x.toNat = 100 := fun h => hx (UInt8.toNat_inj.1 h)
              rw [beq_eq_false_iff_ne.2 (show some x ≠ some 100 by simpa using hx), beq_eq_false_iff_ne.2 (show (x.toNat : Int) ≠ 100 by omega)])
          have HWP : Hid ((valD p.data.toList.dropLast : Int) = wPar p.data.toList) := Lib.hid rfl
          clear hbb
          obtain ⟨_, _, e, o2⟩ := TA.out.r2
          injection e with e1 e2 e3
          injection e1 with e1
          injection e1 with e1
          subst e1; subst e3
          have O2 := Lib.hid o2
          have l2 := rowAt o2
          have s3 := BA.out.size
          clear o2
          go_wp2_with (at_builtin; rw [HBB.out]; refine wpList_append_lies _ rfl _ _ 25 rfl w1.heap.size 4 jj _ 1 1 Tryd.underlying25 HJ.out.1 HJ.out.2.1 HJ.out.2.2.1 HJ.out.2.2.2 rfl (by omega) _ _ _ rfl (rowBelow O2.out ((Below.refl _ _).alloc (Nat.le_refl _) _)) ⟨w3.heap.size, 0, none⟩ 1 1 [.bool bb] rfl rfl (World.news_of_block (cs := #[.bool bb]) (t := 4) (fr := (0, 0)) (heap_alloc_new w3 _)) (by simp [Value.oneCell']) (by omega) (by unfold maxLen; omega) (by omega) (by simp; omega) (w3.heap.size + 1) (by simp) ?_; intro gd capd w4 hown1 hgrow hat hlt3)
          have TB := Lib.hid ((TA.out.alloc (.cells #[.bool bb] 4)).pushD hown1 hgrow (hat.imp id (fun e => by rw [e]; simp)))
          have KB := Lib.hid ((KA.out.alloc (.cells #[.bool bb] 4)).grown hgrow (fun e => by (have e2 : some w.heap.size = some g2 := e); injection e2 with e2; omega))
          have BB := Lib.hid (below_grown (BA.out.alloc (by omega) (.cells #[.bool bb] 4)) hgrow (fun k e => by (have e2 : some g2 = some k := e); injection e2 with e2; omega))
          clear hown1 hgrow hat hlt3 TA KA BA O2 hcr3
          have TE : Hid (Duo w4 w1.heap.size (.slice (some ⟨gg, 0, none⟩) (k + 1 + 1) cap) (.slice (some ⟨gd, 0, none⟩) (k + 1 + 1) capd) (k + 1 + 1) (k + 1 + 1) (prK s.data.toList (k + 1)) (drK s.data.toList (k + 1))) := Lib.hid (by
            rw [prK_succ HW.out, drK_succ HW.out, HWD.out, ← HWP.out]; exact TB.out)
          have HA2 : Hid (∀ u ∈ (cutL 32 s.data.toList).take (k + 1), 2 ≤ u.length ∧ rdB u.dropLast = true) := Lib.hid (by
            obtain ⟨hk1, hk2⟩ := List.getElem?_eq_some_iff.1 HW.out
            intro u hu
            rw [List.take_succ_eq_append_getElem hk1, hk2] at hu
            rcases List.mem_append.1 hu with h | h
            · exact HA.out u h
            · rw [List.mem_singleton.1 h]; exact ⟨by rw [HPL.out]; omega, HR.out⟩)
          clear TB HA
          go_roundw
          case rel => exact ⟨k + 1, by omega, by go_num, TE, HA2, KB, BB⟩
          case measure => simp [intOf]; omega
    · have hkn : k = nw s.data.toList := by unfold nw; have := HL.out; omega
      have HA2 : Hid (∀ u ∈ cutL 32 s.data.toList, 2 ≤ u.length) := Lib.hid (fun u hu => (HA.out u (by rw [List.take_of_length_le (by rw [← HL.out]; omega)]; exact hu)).1)
      subst hkn
      have h3 := cut_three 32 _ s.data.toList (Nat.le_refl _) HA2.out
      rw [bytes_len] at h3
      have hm : nw s.data.toList + 1 ≤ 1048576 := by unfold nw; omega
      have lk := HK.out.lt
      have hO : BOwn wr w1.heap.size wr.heap.size (some ⟨g1, 0, none⟩) (nw s.data.toList + 1) (some ⟨g2, 0, none⟩) (nw s.data.toList + 1) (prL s.data.toList) (drL s.data.toList) := HT.out.own
      have bA := (Below.refl wr.heap.size wr).alloc (Nat.le_refl _) (.cells #[.slice (some ⟨g1, 0, none⟩) (nw s.data.toList + 1) c1, .slice (some ⟨g2, 0, none⟩) (nw s.data.toList + 1) c2] 27)
      have O5 := Lib.hid (hO.below bA)
      have K5 := Lib.hid (HK.out.on bA)
      have G5 := Lib.hid (Cell2.new wr 27 (.slice (some ⟨g1, 0, none⟩) (nw s.data.toList + 1) c1) (.slice (some ⟨g2, 0, none⟩) (nw s.data.toList + 1) c2))
      have B5 := Lib.hid (below_trans' (below_trans' C1.out HB.out) bA)
      obtain ⟨q0, q1⟩ := G5.out.cells
      clear h3 HT HA HA2 HK HB hO bA
      rcases hbb : bldB (prL s.data.toList) (drL s.data.toList) with _ | _
      · have HY := Lib.hid (rd_no (rd_not hbb))
        have HBB := Lib.hid hbb
        clear hbb
        go_wp2_with fail
        refine (specIsBuilding_any _ _ _ _ _ _ (prL s.data.toList) (drL s.data.toList) _ O5.out.bld hm hm).mono ?_
        rw [HBB.out]
        rintro e w6 ⟨rfl, b6⟩
        have K6 := Lib.hid (K5.out.on b6)
        have B6 := Lib.hid (below_trans' B5.out b6)
        clear b6 q0 q1
        have f0 := K6.out.thawed 0
        have f1 := K6.out.thawed 1
        obtain ⟨p0, p1⟩ := K6.out.cells
        go_wp2
        clear f0 f1 p0 p1
        have R := ((K6.out.put0 (.slice none 0 0)).put1 (.slice none 0 0)).cells
        have s5 : (w6).grownBy (((w6).setCell ⟨w.heap.size, 0, none⟩ (.slice none 0 0)).setCell ⟨w.heap.size, 1, none⟩ (.slice none 0 0)) (some w.heap.size) := grown_set (p := ⟨w.heap.size, 1, none⟩) (grown_set (p := ⟨w.heap.size, 0, none⟩) (World.grownBy.refl _ _) rfl _) rfl _
        rw [HY.out.1, HY.out.2.1, HY.out.2.2]
        exact bodyPost_ret (v := .tuple #[.agg #[.slice none 0 0, .slice none 0 0], .int .i64 6]) (by simp [results, Tryd.results14, go_sem, R.1, R.2]) rfl ⟨_, _, _, _, _, _, rfl, BOwn.none, by omega, by omega, below_grown (B6.out) s5 (fun g e => by injection e with e; omega)⟩
      have HBB := Lib.hid hbb
      obtain ⟨hT, n2, n24, hkn, _⟩ := bld_tree hbb
      rw [prL_len] at n2 n24
      have HTT := Lib.hid hT
      clear hbb hT hkn
      go_wp2_with fail
      refine (specIsBuilding_any _ _ _ _ _ _ (prL s.data.toList) (drL s.data.toList) _ O5.out.bld hm hm).mono ?_
      rw [HBB.out]
      rintro e w6 ⟨rfl, b6⟩
      have K6 := Lib.hid (K5.out.on b6)
      have B6 := Lib.hid (below_trans' B5.out b6)
      have O6 := Lib.hid (O5.out.below b6)
      have G6 := Lib.hid (G5.out.on b6)
      clear b6 q0 q1 K5 B5 O5 G5
      obtain ⟨q0, q1⟩ := G6.out.cells
      go_wp2_with fail
      refine (l09Text_any _ _ _ _ _ _ (prL s.data.toList) (drL s.data.toList) _ O6.out.bld HTT.out rfl n2 n24).mono ?_
      rintro e w7 ⟨tt, rfl, ht, _, b7⟩
      have K7 := Lib.hid (K6.out.on b7)
      have B7 := Lib.hid (below_trans' B6.out b7)
      have O7 := Lib.hid (O6.out.below b7)
      have G7 := Lib.hid (G6.out.on b7)
      clear b7 q0 q1 K6 B6 O6 G6
      by_cases hts : tt = s
      · have HG : Hid (rdG s.data.toList = true) := Lib.hid (by
          unfold rdG
          rw [HBB.out, Bool.true_and, decide_eq_true_eq, prL_len, ← show tt.data.toList = _ from ht, hts])
        have HY := Lib.hid (rd_yes HG.out)
        subst hts
        clear ht
        have f0 := K7.out.thawed 0
        have f1 := K7.out.thawed 1
        obtain ⟨p0, p1⟩ := K7.out.cells
        obtain ⟨q0, q1⟩ := G7.out.cells
        have dd : (tt.toList == tt.toList) = true := by simp
        go_wp2
        clear f0 f1 p0 p1 q0 q1
        have R := ((K7.out.put0 (.slice (some ⟨g1, 0, none⟩) (nw tt.data.toList + 1) c1)).put1 (.slice (some ⟨g2, 0, none⟩) (nw tt.data.toList + 1) c2)).cells
        have s5 : w7.grownBy ((w7.setCell ⟨w.heap.size, 0, none⟩ (.slice (some ⟨g1, 0, none⟩) (nw tt.data.toList + 1) c1)).setCell ⟨w.heap.size, 1, none⟩ (.slice (some ⟨g2, 0, none⟩) (nw tt.data.toList + 1) c2)) (some w.heap.size) := grown_set (p := ⟨w.heap.size, 1, none⟩) (grown_set (p := ⟨w.heap.size, 0, none⟩) (World.grownBy.refl _ _) rfl _) rfl _
        rw [HY.out.1, HY.out.2.1, HY.out.2.2]
        have hO := O7.out.apart s5 (fun g e => by injection e with e; omega)
        exact bodyPost_ret (v := .tuple #[.agg #[.slice (some ⟨g1, 0, none⟩) (nw tt.data.toList + 1) c1, .slice (some ⟨g2, 0, none⟩) (nw tt.data.toList + 1) c2], .int .i64 0]) (by simp [results, Tryd.results14, go_sem, R.1, R.2]) rfl ⟨_, _, _, _, _, _, rfl, hO.more (by omega) hO.ps.size (Nat.le_refl _), by omega, by omega, below_grown B7.out s5 (fun g e => by injection e with e; omega)⟩
      · have HG : Hid (rdG s.data.toList = false) := Lib.hid (by
          unfold rdG
          rw [HBB.out, Bool.true_and, decide_eq_false_iff_not, prL_len, ← show tt.data.toList = _ from ht]
          exact fun e => hts (text_eq e))
        have HY := Lib.hid (rd_no HG.out)
        have dd : (tt.toList == s.toList) = false := by
          rw [ByteArray.toList_eq, ByteArray.toList_eq]
          exact beq_eq_false_iff_ne.2 fun e => hts (text_eq e)
        clear ht
        have f0 := K7.out.thawed 0
        have f1 := K7.out.thawed 1
        obtain ⟨p0, p1⟩ := K7.out.cells
        go_wp2
        clear f0 f1 p0 p1
        have R := ((K7.out.put0 (.slice none 0 0)).put1 (.slice none 0 0)).cells
        have s5 : (w7).grownBy (((w7).setCell ⟨w.heap.size, 0, none⟩ (.slice none 0 0)).setCell ⟨w.heap.size, 1, none⟩ (.slice none 0 0)) (some w.heap.size) := grown_set (p := ⟨w.heap.size, 1, none⟩) (grown_set (p := ⟨w.heap.size, 0, none⟩) (World.grownBy.refl _ _) rfl _) rfl _
        rw [HY.out.1, HY.out.2.1, HY.out.2.2]
        exact bodyPost_ret (v := .tuple #[.agg #[.slice none 0 0, .slice none 0 0], .int .i64 6]) (by simp [results, Tryd.results14, go_sem, R.1, R.2]) rfl ⟨_, _, _, _, _, _, rfl, BOwn.none, by omega, by omega, below_grown (B7.out) s5 (fun g e => by injection e with e; omega)⟩

end Go.Proofs.YtgbicepneonkfaaDoor
