/- Doors and common groups of the model. -/
import Derived.Test.YtnadcjclihflcaaBldA
import Derived.Test.YtnadcjclihflcaaBldH
namespace Go.Proofs.Ytnadcjclihflcaa
open Go Go.RowKit

set_option maxRecDepth 100000 in
set_option maxHeartbeats 2000000 in
theorem l09Doors_any (A B : Option Addr) (n c k d X : Nat) (P : List Int) (D : List Bool) (w : World) (h : Bld w A n B k P D) (hT : Tree P) (hkn : k = n) (n24 : n ≤ 24) (hxn : X < n) :
    Calls Try.prog 109 #[.agg #[.slice A n c, .slice B k d], .int .i64 (X : Int)] w (GivesOne w (doorsTo P D X n)) := by
  subst hkn
  have c0 := (Below.refl w.heap.size w).alloc (Nat.le_refl _) (.cells #[.slice A k c, .slice B k d] 27)
  have K0 := Cell2.new w 27 (.slice A k c) (.slice B k d)
  have H := Lib.hid h
  have HL := Lib.hid H.out.ps.len
  have HT := Lib.hid hT
  obtain ⟨ii, hi0, hz0, hz1, hz2⟩ := info_parts Try.info2'
  have HF := Lib.hid (And.intro hi0 (And.intro hz0 (And.intro hz1 hz2)))
  have R2 := Lib.hid (rowNil (w := w.alloc (.cells #[.slice A k c, .slice B k d] 27)) (t := 2) (s := 1) (base := w.heap.size + 1) (by simp))
  rw [World.size_alloc] at R2
  have K1 := Lib.hid (K0.alloc (.cells #[] 2))
  have C1 := Lib.hid (c0.alloc (by simp) (.cells #[] 2))
  clear h hT hi0 hz0 hz1 hz2 c0 K0
  go_enter Try.func109, Try.ntmps109
  go_wp2
  go_loopw [5, 6] (fun y x wr => ∃ (j q : Nat) (pv : Value), j ≤ k ∧ x = .int .i64 j ∧ y = pv ∧ q ≤ j ∧ Hid ((doorsTo P D X j).length = q) ∧ Hid (wr.ownsRow (w.heap.size + 1) 2 1 pv q (intsV (doorsTo P D X j))) ∧ Hid (Cell2 wr w.heap.size 27 (.slice A k c) (.slice B k d)) ∧ Hid (Below w.heap.size w wr)) (fun _ x _ => k - (intOf x).toNat)
  case atStart => exact ⟨0, 0, _, Nat.zero_le _, rfl, rfl, Nat.le_refl _, Lib.hid rfl, R2, K1, C1⟩
  case round =>
    obtain ⟨j, q, pv, hj, rfl, rfl, hq, HQ, HR, HK, HB⟩ := hrel
    clear R2 K1 C1
    obtain ⟨A1, c1, rfl, _, _, _⟩ := rowInts HR.out HQ.out
    obtain ⟨p0, p1⟩ := HK.out.cells
    by_cases hlt : (j : Int) < (k : Int)
    · have hltn : j < k := by omega
      obtain ⟨pb, rfl, hdj⟩ := (H.out.on HB.out).dor_at hltn
      have i0 : (0 : Int) ≤ (j : Int) := by omega
      rcases hd : dor D j with _ | _
      · rw [hd] at hdj
        have HN : Hid (doorsTo P D X (j + 1) = doorsTo P D X j) := Lib.hid (doorsTo_no (by rw [hd]; rfl))
        clear hd
        go_wp2
        go_roundw
        case rel => exact ⟨j + 1, q, _, by omega, by go_num, rfl, by omega, Lib.hid (by rw [HN.out]; exact HQ.out), Lib.hid (by rw [HN.out]; exact HR.out), HK, HB⟩
        case measure => simp [intOf]; omega
      · rw [hd] at hdj
        have HD := Lib.hid hd
        have HU := Lib.hid (l09Under_any A (some pb) k c k d j (X : Int) P D wr (H.out.on HB.out) HT.out (by omega) hltn (by omega))
        rw [Int.toNat_natCast] at HU
        rcases hu : und P X j with _ | _
        · have HN : Hid (doorsTo P D X (j + 1) = doorsTo P D X j) := Lib.hid (doorsTo_no (by rw [hd, hu]; rfl))
          rw [hu] at HU
          clear hd hu
          go_wp2_with fail
          refine HU.out.mono ?_
          rintro e w2 ⟨rfl, b2⟩
          have R5 := Lib.hid (rowBelow HR.out b2)
          have K5 := Lib.hid (HK.out.on b2)
          have B5 := Lib.hid (below_trans' HB.out b2)
          clear b2 p0 p1 HU hdj
          go_wp2
          go_roundw
          case rel => exact ⟨j + 1, q, _, by omega, by go_num, rfl, by omega, Lib.hid (by rw [HN.out]; exact HQ.out), Lib.hid (by rw [HN.out]; exact R5.out), K5, B5⟩
          case measure => simp [intOf]; omega
        · have HN : Hid (doorsTo P D X (j + 1) = doorsTo P D X j ++ [(j : Int)]) := Lib.hid (doorsTo_yes (by rw [hd, hu]; rfl))
          rw [hu] at HU
          clear hd hu
          go_wp2_with fail
          refine HU.out.mono ?_
          rintro e wy ⟨rfl, b2⟩
          have RY := Lib.hid (rowBelow HR.out b2)
          have KY := Lib.hid (HK.out.on b2)
          have BY := Lib.hid (below_trans' HB.out b2)
          have hszw := BY.out.size
          have hls := KY.out.lt
          have HZV := Lib.hid (rowBase RY.out)
          clear b2 p0 p1 HU hdj HR HK HB
          go_wp2_with (at_builtin; refine wpList_append_lies _ rfl _ _ 24 rfl (w.heap.size + 1) 2 ii _ 1 8 Try.underlying24 HF.out.1 HF.out.2.1 HF.out.2.2.1 HF.out.2.2.2 rfl (by omega) _ q _ rfl (rowBelow RY.out ((Below.refl _ _).alloc (Nat.le_refl _) _)) ⟨wy.heap.size, 0, none⟩ 1 1 [.int .i64 (j : Int)] rfl rfl (World.news_of_block (cs := #[.int .i64 (j : Int)]) (t := 2) (fr := (0, 0)) (heap_alloc_new wy _)) (by simp [Value.oneCell']) (by omega) (by unfold maxLen; omega) (by omega) (by simp; omega) (wy.heap.size + 1) (by simp) ?_; intro gg cap w5 hown1 hgrow hat hlt3)
          have R5 : Hid (w5.ownsRow (w.heap.size + 1) 2 1 (.slice (some ⟨gg, 0, none⟩) (q + 1) cap) (q + 1) (intsV (doorsTo P D X (j + 1)))) := Lib.hid (by rw [HN.out, ← intsV_snoc]; exact hown1)
          have Q5 : Hid ((doorsTo P D X (j + 1)).length = q + 1) := Lib.hid (by rw [HN.out, List.length_append, HQ.out]; rfl)
          have K5 := Lib.hid ((KY.out.alloc (.cells #[.int .i64 (j : Int)] 2)).grown hgrow (fun e => by have := HZV.out _ e.symm; omega))
          have B5 := Lib.hid ((BY.out.alloc BY.out.size (.cells #[.int .i64 (j : Int)] 2)).grown hgrow (by simp; omega) (fun q e => by have := HZV.out q e; omega))
          clear hown1 hgrow hat hlt3
          go_wp2
          go_roundw
          case rel => exact ⟨j + 1, q + 1, _, by omega, by go_num, rfl, by omega, Q5, R5, K5, B5⟩
          case measure => simp [intOf]; omega
    · obtain rfl : j = k := by omega
      obtain ⟨A2, c2, e, ho, h1, h2⟩ := rowInts HR.out HQ.out
      injection e with e1 e2 e3
      subst e1; subst e3
      have HO := Lib.hid (ho.more (show w.heap.size ≤ w.heap.size + 1 by omega) (Nat.le_refl _) (Nat.le_refl _))
      have q1 : q ≤ 1048576 := by omega
      clear ho
      go_wp2
      go_ret
      exact ⟨_, q, _, rfl, HO.out, q1, h1, h2, HB.out⟩

theorem specDoorsUnder_any (A B : Option Addr) (n c k d : Nat) (P : List Int) (D : List Bool) (x : Int) (w : World) (h : Bld w A n B k P D) (hn : n ≤ 1048576) (hk : k ≤ 1048576) :
    Calls Try.prog 68 #[.agg #[.slice A n c, .slice B k d], .int .i64 x] w (GivesList w (nodE P D x) (duL P D x)) := by
  have c0 := (Below.refl w.heap.size w).alloc (Nat.le_refl _) (.cells #[.slice A n c, .slice B k d] 27)
  have h0 := Lib.hid (h.on c0)
  have C0 := Lib.hid c0
  have H := Lib.hid h
  have K0 := Lib.hid (Cell2.new w 27 (.slice A n c) (.slice B k d))
  obtain ⟨p0, p1⟩ := K0.out.cells
  clear c0 h
  obtain ⟨z, hz⟩ : ∃ z, nodE P D x = z := ⟨_, rfl⟩
  have HZ := Lib.hid hz
  by_cases hz0 : z = 0
  rotate_left
  · have HD : Hid (duL P D x = []) := Lib.hid (by unfold duL; rw [hz, if_neg hz0])
    rw [hz, HD.out]
    have ht : (z != 0) = true := by simpa using hz0
    clear hz hz0
    go_enter Try.func68, Try.ntmps68
    go_wp2_with fail
    refine (l09Code_any A B n c k d P D x _ h0.out hn hk).mono ?_
    rw [HZ.out]
    rintro e w1 ⟨rfl, b1⟩
    have C1 := Lib.hid (C0.out.trans (b1.mono C0.out.size))
    clear b1 p0 p1
    go_wp2
    go_ret2
    exact ⟨none, 0, 0, rfl, Own.nil _ (Nat.le_refl _), by omega, by omega, by omega, C1.out⟩
  subst hz0
  obtain ⟨hB, hx0, hxn⟩ := nod_zero hz
  obtain ⟨hT, n2, n24, hkn, _⟩ := bld_tree hB
  have HL := Lib.hid H.out.ps.len
  rw [HL.out] at n2 n24 hxn
  have HT := Lib.hid hT
  have HKN : Hid (k = n) := Lib.hid (by rw [← HL.out, ← H.out.ds.len]; exact hkn)
  obtain ⟨X, rfl⟩ := Int.eq_ofNat_of_zero_le hx0
  rw [Int.toNat_natCast] at hxn
  have HD : Hid (duL P D (X : Int) = doorsTo P D X n) := Lib.hid (by unfold duL; rw [hz, if_pos rfl, HL.out]; rfl)
  rw [hz, HD.out]
  clear hz hx0 hB hT hkn
  go_enter Try.func68, Try.ntmps68
  go_wp2_with fail
  refine (l09Code_any A B n c k d P D (X : Int) _ h0.out hn hk).mono ?_
  rw [HZ.out]
  rintro e w1 ⟨rfl, b1⟩
  have C1 := Lib.hid (C0.out.trans (b1.mono C0.out.size))
  obtain ⟨p0', p1'⟩ := (K0.out.on b1).cells
  clear b1 p0 p1
  go_wp2_with fail
  refine (l09Doors_any A B n c k d X P D _ (H.out.on C1.out) HT.out HKN.out n24 hxn).mono ?_
  rintro e w2 ⟨A2, n2', c2, rfl, ho, h1, h2, h3, b2⟩
  have HO := Lib.hid (ho.widen C1.out.size)
  have C2 := Lib.hid (below_trans' C1.out b2)
  clear ho b2 p0' p1'
  go_wp2
  go_ret2
  exact ⟨_, _, _, rfl, HO.out, h1, h2, h3, C2.out⟩

theorem nod0 (P : List Int) (D : List Bool) : nodE P D 0 = bdE P D := by
  unfold nodE bdE
  rcases hb : bldB P D with _ | _
  · rfl
  · obtain ⟨_, h2, _⟩ := bld_tree hb
    have : inB 0 0 ((P.length : Int) - 1) = true := by rw [inB_true]; omega
    rw [this]; rfl
theorem specDoorsOf_any (A B : Option Addr) (n c k d : Nat) (P : List Int) (D : List Bool) (w : World) (h : Bld w A n B k P D) (hn : n ≤ 1048576) (hk : k ≤ 1048576) :
    Calls Try.prog 50 #[.agg #[.slice A n c, .slice B k d]] w (GivesList w (nodE P D 0) (duL P D 0)) := by
  have c0 := (Below.refl w.heap.size w).alloc (Nat.le_refl _) (.cells #[.slice A n c, .slice B k d] 27)
  have h0 := Lib.hid (h.on c0)
  have C0 := Lib.hid c0
  have H := Lib.hid h
  have K0 := Lib.hid (Cell2.new w 27 (.slice A n c) (.slice B k d))
  obtain ⟨p0, p1⟩ := K0.out.cells
  clear c0 h
  rcases hb : bldB P D with _ | _
  · have HV : Hid (nodE P D 0 = 1 ∧ duL P D 0 = []) := Lib.hid (by unfold duL; rw [nod0]; unfold bdE; rw [hb]; exact ⟨rfl, rfl⟩)
    rw [HV.out.1, HV.out.2]
    have HB := Lib.hid hb
    clear hb
    go_enter Try.func50, Try.ntmps50
    go_wp2_with fail
    refine (specIsBuilding_any A B n c k d P D _ h0.out hn hk).mono ?_
    rw [HB.out]
    rintro e w1 ⟨rfl, b1⟩
    have C1 := Lib.hid (C0.out.trans (b1.mono C0.out.size))
    clear b1 p0 p1
    go_wp2
    go_ret2
    exact ⟨none, 0, 0, rfl, Own.nil _ (Nat.le_refl _), by omega, by omega, by omega, C1.out⟩
  obtain ⟨hT, n2, n24, hkn, _⟩ := bld_tree hb
  have HL := Lib.hid H.out.ps.len
  rw [HL.out] at n2 n24
  have HT := Lib.hid hT
  have HKN : Hid (k = n) := Lib.hid (by rw [← HL.out, ← H.out.ds.len]; exact hkn)
  have HV : Hid (nodE P D 0 = 0 ∧ duL P D 0 = doorsTo P D 0 n) := Lib.hid (by unfold duL; rw [nod0]; unfold bdE; rw [hb, HL.out]; exact ⟨rfl, rfl⟩)
  rw [HV.out.1, HV.out.2]
  have HB := Lib.hid hb
  clear hb hT hkn
  go_enter Try.func50, Try.ntmps50
  go_wp2_with fail
  refine (specIsBuilding_any A B n c k d P D _ h0.out hn hk).mono ?_
  rw [HB.out]
  rintro e w1 ⟨rfl, b1⟩
  have C1 := Lib.hid (C0.out.trans (b1.mono C0.out.size))
  obtain ⟨p0', p1'⟩ := (K0.out.on b1).cells
  clear b1 p0 p1
  go_wp2_with fail
  refine (l09Doors_any A B n c k d 0 P D _ (H.out.on C1.out) HT.out HKN.out n24 (by omega)).mono ?_
  rintro e w2 ⟨A2, n2', c2, rfl, ho, h1, h2, h3, b2⟩
  have HO := Lib.hid (ho.widen C1.out.size)
  have C2 := Lib.hid (below_trans' C1.out b2)
  clear ho b2 p0' p1'
  go_wp2
  go_ret2
  exact ⟨_, _, _, rfl, HO.out, h1, h2, h3, C2.out⟩

end Go.Proofs.Ytnadcjclihflcaa
