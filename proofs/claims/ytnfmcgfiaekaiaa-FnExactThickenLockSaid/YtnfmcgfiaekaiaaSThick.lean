/- ThickenLock of the model. -/
import Derived.Test.YtnfmcgfiaekaiaaThick
import Derived.Test.YtnfmcgfiaekaiaaBuilt
import Derived.Test.YtnfmcgfiaekaiaaSHull
namespace Go.Proofs.Ytnfmcgfiaekaiaa
open Go Go.RowKit

theorem take_map {f : List Int → List Int} {yss : List (List Int)} {i : Nat} {ys : List Int} (h : yss[i]? = some ys) : (yss.take (i + 1)).map f = (yss.take i).map f ++ [f ys] := by
  obtain ⟨hl, e⟩ := List.getElem?_eq_some_iff.1 h
  rw [List.take_succ_eq_append_getElem hl, e, List.map_append]; rfl

set_option maxRecDepth 100000 in
set_option maxHeartbeats 8000000 in
theorem specThickenLock_any (m : Mk) (V : Option Addr) (n c : Nat) (yss : List (List Int)) (least : Int) (w : World) (h : Sets w w.heap.size V n yss) (hn : n + sizeL yss ≤ 1048576) :
    Calls Try.prog 41 #[.agg #[.int .i64 m.C, .int .i64 m.D, .int .i64 m.S, .int .i64 m.M, .int .i64 m.L], .agg #[.slice V n c], .int .i64 least] w (GivesSetsE w (cfE m yss least) (tkL m yss least)) := by
  have c0 := (((Below.refl w.heap.size w).alloc (Nat.le_refl _) (.cells #[.int .i64 m.C, .int .i64 m.D, .int .i64 m.S, .int .i64 m.M, .int .i64 m.L] 25)).alloc (by simp) (.cells #[.slice V n c] 30)).alloc (by simp; omega) (.cells #[.slice none 0 0] 30)
  have hx := ((Boxed.new w 25 m).alloc (.cells #[.slice V n c] 30)).alloc (.cells #[.slice none 0 0] 30)
  have k0 := (Cell1.new (w.alloc (.cells #[.int .i64 m.C, .int .i64 m.D, .int .i64 m.S, .int .i64 m.M, .int .i64 m.L] 25)) 30 (.slice V n c)).alloc (.cells #[.slice none 0 0] 30)
  have o0 := Cell1.new ((w.alloc (.cells #[.int .i64 m.C, .int .i64 m.D, .int .i64 m.S, .int .i64 m.M, .int .i64 m.L] 25)).alloc (.cells #[.slice V n c] 30)) 30 (.slice none 0 0)
  simp only [World.size_alloc] at k0 o0
  have hs := h.on c0
  have HN := Lib.hid hn
  have HLN := Lib.hid h.len
  have hn1 : n ≤ 1048576 := by omega
  have HS := Lib.hid h
  clear h hn
  obtain ⟨q0, q1, q2, q3, q4⟩ := hx.cells
  have ck := k0.cell
  obtain ⟨z, hz⟩ : ∃ z, cfE m yss least = z := ⟨_, rfl⟩
  by_cases hz0 : z = 0
  rotate_left
  · have HE : Hid (tkL m yss least = []) := Lib.hid (by unfold tkL; rw [hz, if_neg hz0])
    rw [hz, HE.out]
    have HZ := Lib.hid hz
    have htest : (z != 0) = true := by simpa using hz0
    clear hz hz0
    go_enter Try.func41, Try.ntmps41
    go_wp2_with fail
    refine (l05Code_any m _ _ _ yss least _ hs HN.out).mono ?_
    rw [HZ.out]
    rintro e w1 ⟨rfl, b1⟩
    have c1 := below_trans' c0 b1
    have o1 := o0.on b1
    have f1 := o1.thawed
    have k1 := o1.cell
    clear q0 q1 q2 q3 q4 ck
    go_wp2
    have r0 := (o1.put (.slice none 0 0)).cell
    exact bodyPost_ret (v := .tuple #[.agg #[.slice none 0 0], .int .i64 z]) (by simp [results, Try.results41, go_sem, r0]) rfl ⟨none, 0, 0, rfl, Sets.nil none, Nat.le_refl _, by omega, c1.setCell (by simp; omega) _⟩
  subst hz0
  have HZ := Lib.hid hz
  obtain ⟨hL, _⟩ := cf_zero hz
  have HE : Hid (tkL m yss least = yss.map (thk least)) := Lib.hid (by unfold tkL; rw [hz, if_pos rfl])
  rw [hz, HE.out]
  obtain ⟨hm, hCn, hfs⟩ := lockB_facts hL
  obtain ⟨m1, m2, m3, m4, m5, m6, m7, m8, m9, m10, m11⟩ := Mk.ok_true hm
  have H7 : Hid (∀ (k : Nat) (ys : List Int), yss[k]? = some ys → ys.length ≠ 0 ∧ allIn 0 7 ys = true) := Lib.hid (fun k ys hy => ⟨(hfs k ys hy).1, rise_seven (hfs k ys hy).2 m4⟩)
  obtain ⟨ii, hi0, hz0, hz1, hz2⟩ := info_parts Try.info2'
  have HF := Lib.hid (And.intro hi0 (And.intro hz0 (And.intro hz1 hz2)))
  obtain ⟨jj, hj0, hy0, hy1, hy2⟩ := info_parts Try.info39'
  have HG := Lib.hid (And.intro hj0 (And.intro hy0 (And.intro hy1 hy2)))
  clear hi0 hz0 hz1 hz2 hj0 hy0 hy1 hy2 hz hL hm hCn hfs
  go_enter Try.func41, Try.ntmps41
  go_wp2_with fail
  refine (l05Code_any m _ _ _ yss least _ hs HN.out).mono ?_
  rw [HZ.out]
  rintro e w1 ⟨rfl, b1⟩
  have c1 := below_trans' c0 b1
  have bA := below_alloc2 w1 (.cells #[] 39)
  have K0 := Lib.hid ((k0.on b1).on bA)
  have O0 := Lib.hid ((o0.on b1).on bA)
  have C0 := Lib.hid (below_trans' c1 bA)
  have ho1 := (o0.on b1).lt
  have R0 := Lib.hid (Stack.none_ (rowNil (w := w1) (t := 39) (s := 1) (base := w.heap.size + 3) (by omega)))
  clear q0 q1 q2 q3 q4 ck hx k0 o0 hs b1 c0 c1 bA
  go_wp2
  go_loopw [9, 10] (fun y x wr => ∃ (i : Nat) (vals : List Value) (z : Value), z = y ∧ x = .int .i64 i ∧ i ≤ n ∧ Hid (Stack wr (w.heap.size + 3) z i vals ((yss.take i).map (thk least))) ∧ Hid (Cell1 wr (w.heap.size + 1) 30 (.slice V n c)) ∧ Hid (Cell1 wr (w.heap.size + 1 + 1) 30 (.slice none 0 0)) ∧ Hid (Below w.heap.size w wr)) (fun _ x _ => n - (intOf x).toNat)
  case atStart => exact ⟨0, [], _, rfl, rfl, Nat.zero_le _, R0, K0, O0, C0⟩
  case round =>
    obtain ⟨i, vals, z, rfl, rfl, hi, hst, hbox, hres, hbel⟩ := hrel
    clear R0 K0 O0 C0
    obtain ⟨wo, rfl⟩ : ∃ wo, wo = wr := ⟨_, rfl⟩
    have ck := hbox.out.cell
    have hoz := hres.out.lt
    by_cases hlt : (i : Int) < (n : Int)
    · have hltn : i < n := by omega
      obtain ⟨ad, ys, A, q, cc, rfl, hab, hy, hc, hi1, hqc, hqm⟩ := (HS.out.on hbel.out).at_ hltn
      obtain ⟨hne, h7⟩ := H7.out i ys hy
      have hq0 : 0 < q := by have := hi1.len; omega
      have hq1 : q ≤ 1048576 := by have := fits_at HN.out hy; have := hi1.len; omega
      obtain ⟨ad2, y, rfl, hab2, hv0, hcy⟩ := hi1.at_ hq0
      obtain ⟨y0, y7⟩ := allIn_at h7 hv0
      rw [Addr.add_zero'] at hcy
      have HY := Lib.hid hy
      have HI := Lib.hid hi1
      have H8 := Lib.hid h7
      have HT : Hid (thk least ys = ([] ++ [y]) ++ thkF least y (ys.drop 1)) := Lib.hid (by
        have h0 : ys = y :: ys.drop 1 := by simpa using drop_cons hv0
        rw [h0]; rfl)
      have i0 : (0 : Int) ≤ (i : Int) := by omega
      have s1 : (0 : Int) < (q : Int) := by omega
      have p0 : Hid ((wo.alloc (.cells #[.int .i64 y] 2)).ownsRow wo.heap.size 2 1 (.slice (some ⟨wo.heap.size, 0, none⟩) 1 1) ([] ++ [y]).length (intsV ([] ++ [y]))) := Lib.hid ⟨by simp [intsV], .inr ⟨wo.heap.size, 1, _, rfl, Nat.le_refl _, heap_alloc_new wo _, Nat.le_refl _, by unfold maxLen; omega, by simp, by simp [intsV]⟩⟩
      have e0 := Lib.hid (below_alloc2 wo (.cells #[.int .i64 y] 2))
      clear hy hi1 h7 hne hv0
      go_wp2
      have HC0 := Lib.hid hc
      clear ck hc hcy
      go_loopw [11, 12] (fun v x wr => ∃ (k : Nat) (last : Int) (pre : List Int) (u : Value), u = v ∧ x = .int .i64 k ∧ 1 ≤ k ∧ k ≤ q ∧ 0 ≤ last ∧ last ≤ 7 ∧ pre.length + 1 ≤ k ∧ Hid (thk least ys = (pre ++ [last]) ++ thkF least last (ys.drop k)) ∧ Hid (wr.ownsRow wo.heap.size 2 1 u (pre ++ [last]).length (intsV (pre ++ [last]))) ∧ Hid (Below wo.heap.size wo wr)) (fun _ x _ => q + 1 - (intOf x).toNat)
      case atStart => exact ⟨1, y, [], _, rfl, rfl, Nat.le_refl _, by omega, y0, y7, by simp, HT, p0, e0⟩
      case round =>
        obtain ⟨k, last, pre, u, rfl, rfl, hk1, hk, l0, l7, hpl, hall, hrow, hb⟩ := hrel
        clear p0 e0
        have ck := (hbox.out.on hb.out).cell
        have hc : wr.cell? (ad.add i) = some (.slice (some ad2) q cc) := (hb.out.cell (p := ad.add i) (by rw [block_of_add]; exact hab)).trans HC0.out
        by_cases hltk : (k : Int) < (q : Int)
        · obtain ⟨ad4, v, e4, _, hv, hcv⟩ := (HI.out.below hb.out).at_ (show k < q by omega)
          injection e4 with e4
          subst e4
          obtain ⟨v0, v7⟩ := allIn_at H8.out hv
          have HD := Lib.hid (drop_cons hv)
          obtain ⟨l, hl⟩ : ∃ l, pre.length + 1 = l := ⟨_, rfl⟩
          have hll : (pre ++ [last]).length = l := by simpa using hl
          have HLL := Lib.hid hll
          have HR := Lib.hid (show wr.ownsRow wo.heap.size 2 1 u l (intsV (pre ++ [last])) by rw [← hll]; exact hrow.out)
          obtain ⟨A3, c3, rfl, ho, _, _⟩ := rowInts HR.out hll
          obtain ⟨ad3, v3, rfl, _, hv3, hc3⟩ := ho.ints.at_ (show l - 1 < l by omega)
          obtain rfl : v3 = last := by
            rw [List.getElem?_append_right (by omega)] at hv3
            have e5 : l - 1 - pre.length = 0 := by omega
            rw [e5] at hv3
            simpa using hv3.symm
          have hl6 : l ≤ 1048576 := by omega
          have hkl : l ≤ k := by omega
          have w1' : IntKind.i64.wrap ((l : Int) - 1) = (l : Int) - 1 := IntWalk.i64_in _ (by omega)
          have w2' : 0 ≤ (l : Int) - 1 := by omega
          have w3' : ((l : Int) - 1).toNat = l - 1 := by omega
          have w4' : (l : Int) - 1 < (l : Int) := by omega
          have k0' : (0 : Int) ≤ (k : Int) := by omega
          have sw : IntKind.i64.wrap (v - v3) = v - v3 := IntWalk.i64_in _ (by omega)
          have hsz := hb.out.size
          have hbase : ∀ k', (Value.slice (some ad3) l c3).ownBlock = some k' → wo.heap.size ≤ k' := rowBase HR.out
          clear hv hv3 ho hrow hpl hl hll
          by_cases hge : least ≤ v - v3
          · have hd : decide (least ≤ v - v3) = true := decide_eq_true hge
            have HA : Hid (thk least ys = ((pre ++ [v3]) ++ [v]) ++ thkF least v (ys.drop (k + 1))) := Lib.hid (by
              rw [hall.out, HD.out]
              show (pre ++ [v3]) ++ (if least ≤ v - v3 then _ else _) = _
              rw [if_pos hge]; simp)
            go_wp2
            go_quiet (fail)
            have R6 : Hid ((wr.drewN nq).ownsRow wo.heap.size 2 1 (.slice (some ad3) l c3) l (intsV (pre ++ [v3]))) := Lib.hid (rowDrewN HR.out nq)
            have B6 := Lib.hid (below_drewN hb.out nq)
            have hc6 : (wr.drewN nq).cell? (ad.add i) = some (.slice (some ad2) q cc) := hc
            have hcv6 : (wr.drewN nq).cell? (ad2.add k) = some (.int .i64 v) := hcv
            have ck6 : (wr.drewN nq).cell? ⟨w.heap.size + 1, 0, none⟩ = some (.slice (some ad) n c) := ck
            have hsz6 : wo.heap.size ≤ (wr.drewN nq).heap.size := hsz
            clear hc hcv ck hc3 w1' w2' w3' w4' sw hd HR hsz
            generalize wr.drewN nq = wq at *
            go_wp2_with (at_builtin; refine wpList_append_lies _ rfl _ _ 39 rfl wo.heap.size 2 ii _ 1 8 Try.underlying39 HF.out.1 HF.out.2.1 HF.out.2.2.1 HF.out.2.2.2 rfl (by omega) _ l _ rfl (R6.out.alloc _) ⟨wq.heap.size, 0, none⟩ 1 1 [.int .i64 v] rfl rfl (World.news_of_block (cs := #[.int .i64 v]) (t := 2) (fr := (0, 0)) (heap_alloc_new wq _)) (by simp [Value.oneCell']) (by omega) (by unfold maxLen; omega) (by omega) (by simp; omega) (wq.heap.size + 1) (by simp) ?_; intro gg cap w5 hown1 hgrow hat hlt3)
            have R5 : Hid (w5.ownsRow wo.heap.size 2 1 (.slice (some ⟨gg, 0, none⟩) (l + 1) cap) ((pre ++ [v3]) ++ [v]).length (intsV ((pre ++ [v3]) ++ [v]))) := Lib.hid (by
              rw [List.length_append, HLL.out, ← intsV_snoc]
              exact hown1)
            have B5 := Lib.hid ((B6.out.alloc hsz6 (.cells #[.int .i64 v] 2)).grown hgrow (by simp; omega) (fun q e => hbase q e))
            have L5 : (pre ++ [v3]).length + 1 ≤ k + 1 := by rw [HLL.out]; omega
            clear hown1 hgrow hat hlt3 hbase hc6 hcv6 ck6
            go_wp2
            go_roundw
            case rel => exact ⟨k + 1, v, pre ++ [v3], _, rfl, by go_num, by omega, by omega, v0, v7, L5, HA, R5, B5⟩
            case measure => simp [intOf]; omega
          · have hd : decide (least ≤ v - v3) = false := decide_eq_false hge
            have HA : Hid (thk least ys = (pre ++ [v3]) ++ thkF least v3 (ys.drop (k + 1))) := Lib.hid (by
              rw [hall.out, HD.out]
              show (pre ++ [v3]) ++ (if least ≤ v - v3 then _ else _) = _
              rw [if_neg hge])
            go_wp2
            go_quiet (fail)
            have R5 : Hid ((wr.drewN nq).ownsRow wo.heap.size 2 1 (.slice (some ad3) l c3) (pre ++ [v3]).length (intsV (pre ++ [v3]))) := Lib.hid (by rw [HLL.out]; exact rowDrewN HR.out nq)
            have B5 := Lib.hid (below_drewN hb.out nq)
            have L5 : pre.length + 1 ≤ k + 1 := by have := HLL.out; simp at this; omega
            clear hc hcv ck hc3 w1' w2' w3' w4' sw hd HR hsz hbase
            go_wp2
            go_roundw
            case rel => exact ⟨k + 1, v3, pre, _, rfl, by go_num, by omega, by omega, l0, l7, L5, HA, R5, B5⟩
            case measure => simp [intOf]; omega
        · have HTE : Hid (thk least ys = pre ++ [last]) := Lib.hid (by
            rw [hall.out, List.drop_eq_nil_of_le (by have := HI.out.len; omega)]
            simp [thkF])
          have hrow2 := hrow.out
          rw [← HTE.out] at hrow2
          obtain ⟨A3, c3, rfl, ho, hqc3, hqm3⟩ := rowInts hrow2 rfl
          have HO := Lib.hid ho
          obtain ⟨l, hl⟩ : ∃ l, (thk least ys).length = l := ⟨_, rfl⟩
          rw [hl] at HO hqc3 ⊢
          have HST := Lib.hid (hst.out.on hb.out)
          have B2 := Lib.hid (below_trans' hbel.out hb.out)
          have K2 := Lib.hid (hbox.out.on hb.out)
          have O2 := Lib.hid (hres.out.on hb.out)
          have hzv : ∀ k, z.ownBlock = some k → w.heap.size + 3 ≤ k := rowBase hst.out.row
          have HNE : Hid (0 < l → ∀ ad, A3 = some ad → z.ownBlock ≠ some ad.block) := Lib.hid (by
            intro hp ad' e' e2
            subst e'
            have h1 := (HO.out.self hp).2.1
            have h2 := rowTop hst.out.row _ e2
            omega)
          have hsz := hb.out.size
          have hszw := hbel.out.size
          have HI3 := Lib.hid HO.out.ints
          have HY2 := Lib.hid (take_map (f := thk least) HY.out)
          have hi7 : i ≤ 1048576 := by omega
          have hlw := O2.out.lt
          clear ho hrow hrow2 hall hpl HO hl
          go_wp2_with (at_builtin; refine wpList_append_lies _ rfl _ _ 26 rfl (w.heap.size + 3) 39 jj _ 1 24 Try.underlying26 HG.out.1 HG.out.2.1 HG.out.2.2.1 HG.out.2.2.2 rfl (by omega) _ i _ rfl (HST.out.row.alloc _) ⟨wr.heap.size, 0, none⟩ 1 1 [.slice A3 l c3] rfl rfl (World.news_of_block (cs := #[.slice A3 l c3]) (t := 39) (fr := (0, 0)) (heap_alloc_new wr _)) (by simp [Value.oneCell']) (by omega) (by unfold maxLen; omega) (by omega) (by simp; omega) (wr.heap.size + 1) (by simp) ?_; intro gg cap w5 hown1 hgrow hat hlt3)
          have P5 : Hid (Stack w5 (w.heap.size + 3) (.slice (some ⟨gg, 0, none⟩) (i + 1) cap) (i + 1) (vals ++ [.slice A3 l c3]) ((yss.take (i + 1)).map (thk least))) := Lib.hid (by
            rw [HY2.out]
            exact HST.out.push HI3.out hqc3 hqm3 HNE.out hown1 hgrow (hat.imp id (fun e => by rw [e]; omega)))
          have K5 := Lib.hid ((K2.out.alloc (.cells #[.slice A3 l c3] 39)).grown hgrow (fun e => by have := hzv _ e.symm; omega))
          have O5 := Lib.hid ((O2.out.alloc (.cells #[.slice A3 l c3] 39)).grown hgrow (fun e => by have := hzv _ e.symm; omega))
          have B5 := Lib.hid ((B2.out.alloc (by omega) (.cells #[.slice A3 l c3] 39)).grown hgrow (by simp; omega) (fun q e => by have := hzv q e; omega))
          clear hown1 hgrow hat hlt3 hzv ck hc
          go_wp2
          go_roundw
          case rel => exact ⟨i + 1, _, _, rfl, by go_num, by omega, P5, K5, O5, B5⟩
          case measure => simp [intOf]; omega
    · have HTA : Hid ((yss.take i).map (thk least) = yss.map (thk least)) := Lib.hid (by rw [List.take_of_length_le (by rw [HLN.out]; omega)])
      have hst2 := hst.out
      rw [HTA.out] at hst2
      obtain ⟨VV, cV, e2, hsets, hc1, hc2⟩ := hst2.sets
      subst e2
      have f2 := hres.out.thawed
      have g2 := hres.out.cell
      have HSS := Lib.hid hsets
      have hblk : Hid (∀ ad, VV = some ad → ad.block ≠ w.heap.size + 1 + 1) := Lib.hid (fun ad e => by
        have := rowBase hst2.row ad.block (by rw [e]; rfl)
        omega)
      clear hst hst2 hsets
      go_wp2
      have r0 := (hres.out.put (.slice VV i cV)).cell
      have S2 := HSS.out.past (p := ⟨w.heap.size + 1 + 1, 0, none⟩) hres.out hblk.out (.slice VV i cV)
      exact bodyPost_ret (v := .tuple #[.agg #[.slice VV i cV], .int .i64 0]) (by simp [results, Try.results41, go_sem, r0]) rfl ⟨VV, i, cV, rfl, S2, hc1, hc2, hbel.out.setCell (by simp; omega) _⟩

end Go.Proofs.Ytnfmcgfiaekaiaa
