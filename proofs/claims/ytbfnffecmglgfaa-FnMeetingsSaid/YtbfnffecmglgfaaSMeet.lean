/- MeetLocks of the model. -/
import Derived.Test.YtbfnffecmglgfaaTwo
namespace Go.Proofs.Ytbfnffecmglgfaa
open Go Go.RowKit

/-- the common depths of a chamber -/
def mset (yss zss : List (List Int)) (i : Nat) : List Int := (yss.getD i []).filter (fun v => (zss.getD i []).any (fun u => decide (u = v)))
def mok (yss zss : List (List Int)) (n : Nat) : Bool := (List.range n).all (fun i => decide ((mset yss zss i).length ≠ 0))
def mtE (m : Mk) (yss zss : List (List Int)) : Int := if lockB m yss && lockB m zss then (if mok yss zss m.C.toNat then 0 else 4) else 1
def mtL (m : Mk) (yss zss : List (List Int)) : List (List Int) := if mtE m yss zss = 0 then (List.range m.C.toNat).map (mset yss zss) else []
theorem meet_no {m : Mk} {yss zss : List (List Int)} (h : lockB m yss = false ∨ lockB m zss = false) : mtE m yss zss = 1 ∧ mtL m yss zss = [] := by
  have e : mtE m yss zss = 1 := by unfold mtE; rcases h with h | h <;> simp [h]
  refine ⟨e, ?_⟩
  unfold mtL
  rw [e]; rfl
theorem meet_none {m : Mk} {yss zss : List (List Int)} (h : lockB m yss = true) (h2 : lockB m zss = true) {n i : Nat} (hn : m.C.toNat = n) (hi : i < n) (he : (mset yss zss i).length = 0) : mtE m yss zss = 4 ∧ mtL m yss zss = [] := by
  have hk : mok yss zss m.C.toNat = false := by
    unfold mok
    rw [List.all_eq_false]
    exact ⟨i, List.mem_range.2 (by omega), by simp [he]⟩
  have e : mtE m yss zss = 4 := by unfold mtE; simp [h, h2, hk]
  refine ⟨e, ?_⟩
  unfold mtL
  rw [e]; rfl
theorem meet_yes {m : Mk} {yss zss : List (List Int)} (h : lockB m yss = true) (h2 : lockB m zss = true) {n : Nat} (hn : m.C.toNat = n) (he : ∀ i, i < n → (mset yss zss i).length ≠ 0) : mtE m yss zss = 0 ∧ mtL m yss zss = (List.range n).map (mset yss zss) := by
  have hk : mok yss zss m.C.toNat = true := by
    unfold mok
    rw [List.all_eq_true]
    intro i hi
    have := he i (by have := List.mem_range.1 hi; omega)
    simpa using this
  have e : mtE m yss zss = 0 := by unfold mtE; simp [h, h2, hk]
  refine ⟨e, ?_⟩
  unfold mtL
  rw [e, hn]; rfl
theorem mset_at {yss zss : List (List Int)} {i : Nat} {ys zs : List Int} (h : yss[i]? = some ys) (h2 : zss[i]? = some zs) : mset yss zss i = ys.filter (fun v => zs.any (fun u => decide (u = v))) := by
  unfold mset
  rw [getD_list h, getD_list h2]
theorem filter_take {ys : List Int} {q : Int → Bool} {k : Nat} {v : Int} (h : ys[k]? = some v) : (ys.take (k + 1)).filter q = if q v then (ys.take k).filter q ++ [v] else (ys.take k).filter q := by
  obtain ⟨hl, e⟩ := List.getElem?_eq_some_iff.1 h
  rw [List.take_succ_eq_append_getElem hl, e, List.filter_append, List.filter_cons]
  cases q v <;> simp

set_option maxRecDepth 100000 in
set_option maxHeartbeats 8000000 in
theorem specMeetLocks_any (m : Mk) (V : Option Addr) (n c : Nat) (yss : List (List Int)) (V' : Option Addr) (n' c' : Nat) (zss : List (List Int)) (w : World) (h : Sets w w.heap.size V n yss) (hn : n + sizeL yss ≤ 1048576) (h' : Sets w w.heap.size V' n' zss) (hn' : n' + sizeL zss ≤ 1048576) :
    Calls Try.prog 39 #[.agg #[.int .i64 m.C, .int .i64 m.D, .int .i64 m.S, .int .i64 m.M, .int .i64 m.L], .agg #[.slice V n c], .agg #[.slice V' n' c']] w (GivesSetsE w (mtE m yss zss) (mtL m yss zss)) := by
  have HLY := Lib.hid h.len
  have HLZ := Lib.hid h'.len
  have J0 := Lib.hid (JArg.new (m := m) (c := c) (c' := c') h h')
  have HN := Lib.hid hn
  have HN' := Lib.hid hn'
  clear h h' hn hn'
  obtain ⟨q0, q1, q2, q3, q4, ck, cl⟩ := J0.out.cells
  rcases hL : lockB m yss with _ | _
  · rw [(meet_no (.inl hL)).1, (meet_no (.inl hL)).2]
    go_enter Try.func39, Try.ntmps39
    go_wp2_with fail
    refine (specIsLock_any m _ _ _ yss _ J0.out.saw HN.out).mono ?_
    rw [hL]
    rintro e w1 ⟨rfl, b1⟩
    have J1 := Lib.hid (J0.out.on b1)
    have f1 := J1.out.o.thawed
    have k1 := J1.out.o.cell
    clear q0 q1 q2 q3 q4 ck cl
    go_wp2
    have r0 := (J1.out.o.put (.slice none 0 0)).cell
    exact bodyPost_ret (v := .tuple #[.agg #[.slice none 0 0], .int .i64 1]) (by simp [results, Try.results39, go_sem, r0]) rfl ⟨none, 0, 0, rfl, Sets.nil none, Nat.le_refl _, by omega, J1.out.bel.setCell (by simp; omega) _⟩
  rcases hL' : lockB m zss with _ | _
  · rw [(meet_no (.inr hL')).1, (meet_no (.inr hL')).2]
    go_enter Try.func39, Try.ntmps39
    go_wp2_with fail
    refine (specIsLock_any m _ _ _ yss _ J0.out.saw HN.out).mono ?_
    rw [hL]
    rintro e w1 ⟨rfl, b1⟩
    have J1 := Lib.hid (J0.out.on b1)
    clear q0 q1 q2 q3 q4 ck cl J0 b1
    obtain ⟨q0, q1, q2, q3, q4, ck, cl⟩ := J1.out.cells
    go_wp2_with fail
    refine (specIsLock_any m _ _ _ zss _ J1.out.sbw HN'.out).mono ?_
    rw [hL']
    rintro e w2 ⟨rfl, b2⟩
    have J2 := Lib.hid (J1.out.on b2)
    have f1 := J2.out.o.thawed
    have k1 := J2.out.o.cell
    clear q0 q1 q2 q3 q4 ck cl
    go_wp2
    have r0 := (J2.out.o.put (.slice none 0 0)).cell
    exact bodyPost_ret (v := .tuple #[.agg #[.slice none 0 0], .int .i64 1]) (by simp [results, Try.results39, go_sem, r0]) rfl ⟨none, 0, 0, rfl, Sets.nil none, Nat.le_refl _, by omega, J2.out.bel.setCell (by simp; omega) _⟩
  have HLL := Lib.hid (And.intro hL hL')
  obtain ⟨hm, hC1, _⟩ := lockB_facts hL
  obtain ⟨_, hC2, _⟩ := lockB_facts hL'
  obtain ⟨m1, m2, m3, m4, m5, m6, m7, m8, m9, m10, m11⟩ := Mk.ok_true hm
  have hnC : m.C.toNat = n := by have := HLY.out; omega
  have hnn : n' = n := by have := HLY.out; have := HLZ.out; omega
  have hn6 : n ≤ 6 := by omega
  have HNC := Lib.hid hnC
  subst hnn
  obtain ⟨ii, hi0, hz0, hz1, hz2⟩ := info_parts Try.info2'
  have HF := Lib.hid (And.intro hi0 (And.intro hz0 (And.intro hz1 hz2)))
  obtain ⟨jj, hj0, hy0, hy1, hy2⟩ := info_parts Try.info39'
  have HG := Lib.hid (And.intro hj0 (And.intro hy0 (And.intro hy1 hy2)))
  clear hi0 hz0 hz1 hz2 hj0 hy0 hy1 hy2 hm hC1 hC2 hnC
  go_enter Try.func39, Try.ntmps39
  go_wp2_with fail
  refine (specIsLock_any m _ _ _ yss _ J0.out.saw HN.out).mono ?_
  rw [hL]
  rintro e w1 ⟨rfl, b1⟩
  have J1 := Lib.hid (J0.out.on b1)
  clear q0 q1 q2 q3 q4 ck cl J0 b1
  obtain ⟨q0, q1, q2, q3, q4, ck, cl⟩ := J1.out.cells
  go_wp2_with fail
  refine (specIsLock_any m _ _ _ zss _ J1.out.sbw HN'.out).mono ?_
  rw [hL']
  rintro e w2 ⟨rfl, b2⟩
  have J2 := Lib.hid (J1.out.on b2)
  have J3 := Lib.hid (J2.out.alloc (.cells #[] 39))
  have hz2 := J2.out.o.lt
  have R0 := Lib.hid (Stack.none_ (rowNil (w := w2) (t := 39) (s := 1) (base := w.heap.size + 1 + 1 + 1 + 1) (by omega)))
  clear q0 q1 q2 q3 q4 ck cl J1 b2 J2 hL hL'
  go_wp2
  go_loopw [8, 9] (fun y x wr => ∃ (i : Nat) (vals : List Value) (z : Value), z = y ∧ x = .int .i64 i ∧ i ≤ n' ∧ Hid (∀ j, j < i → (mset yss zss j).length ≠ 0) ∧ Hid (Stack wr (w.heap.size + 1 + 1 + 1 + 1) z i vals ((List.range i).map (mset yss zss))) ∧ Hid (JArg w wr m V n' c yss V' n' c' zss)) (fun _ x _ => n' - (intOf x).toNat)
  case atStart => exact ⟨0, [], _, rfl, rfl, Nat.zero_le _, Lib.hid (fun j hj => absurd hj (by omega)), R0, J3⟩
  case round =>
    obtain ⟨i, vals, z, rfl, rfl, hi, hall, hst, hj⟩ := hrel
    clear R0 J3
    obtain ⟨wo, rfl⟩ : ∃ wo, wo = wr := ⟨_, rfl⟩
    obtain ⟨q0, q1, q2, q3, q4, ck, cl⟩ := hj.out.cells
    by_cases hlt : (i : Int) < (n' : Int)
    · have y0 := Lib.hid (hj.out.alloc (.cells #[] 2))
      have e0 := Lib.hid ((Below.refl wo.heap.size wo).alloc (Nat.le_refl _) (.cells #[] 2))
      have p0 := Lib.hid (rowNil (w := wo) (t := 2) (s := 1) (base := wo.heap.size) (Nat.le_refl _))
      have hoz := hj.out.o.lt
      have hltn : i < n' := by omega
      obtain ⟨ys, hy⟩ : ∃ ys, yss[i]? = some ys := ⟨_, List.getElem?_eq_getElem (by rw [HLY.out]; exact hltn)⟩
      obtain ⟨zs, hz⟩ : ∃ zs, zss[i]? = some zs := ⟨_, List.getElem?_eq_getElem (by rw [HLZ.out]; exact hltn)⟩
      obtain ⟨a1, hl1⟩ : ∃ a1, ys.length = a1 := ⟨_, rfl⟩
      have HY := Lib.hid hy
      have HZ := Lib.hid hz
      have HYL := Lib.hid hl1
      have ha1 : a1 ≤ 1048576 := by have := fits_at HN.out hy; omega
      clear hy hz hl1
      obtain ⟨qq, hqq⟩ : ∃ qq : Int → Bool, qq = (fun v => zs.any (fun u => decide (u = v))) := ⟨_, rfl⟩
      have HQ := Lib.hid hqq
      clear hqq
      go_wp2
      clear q0 q1 q2 q3 q4 ck cl
      go_loopw [10, 11] (fun y x wr => ∃ (d : Nat) (v : Value), v = y ∧ x = .int .i64 d ∧ d ≤ a1 ∧ Hid (wr.ownsRow wo.heap.size 2 1 v ((ys.take d).filter qq).length (intsV ((ys.take d).filter qq))) ∧ Hid (JArg w wr m V n' c yss V' n' c' zss) ∧ Hid (Below wo.heap.size wo wr)) (fun _ x _ => a1 - (intOf x).toNat)
      case atStart => exact ⟨0, _, rfl, rfl, Nat.zero_le _, p0, y0, e0⟩
      case round =>
        obtain ⟨d, v, rfl, rfl, hd, hrow, hjj, hbel⟩ := hrel
        clear p0 y0 e0
        obtain ⟨q0, q1, q2, q3, q4, ck, cl⟩ := hjj.out.cells
        obtain ⟨ad, ys', A1, a1', cc1, rfl, _, hy, hc, hi1, _, _⟩ := hjj.out.saw.at_ hltn
        obtain ⟨ad', zs', A2, a2', cc2, rfl, _, hz, hc', hi2, _, _⟩ := hjj.out.sbw.at_ hltn
        obtain rfl : ys' = ys := by have := HY.out; rw [hy] at this; injection this
        obtain rfl : zs' = zs := by have := HZ.out; rw [hz] at this; injection this
        obtain rfl : a1' = a1 := by rw [← hi1.len, HYL.out]
        have ha2 : a2' ≤ 1048576 := by have := fits_at HN'.out hz; have := hi2.len; omega
        have HI2 := Lib.hid hi2
        have HI1 := Lib.hid hi1
        have i0 : (0 : Int) ≤ (i : Int) := by omega
        clear hy hz hi2 hi1
        by_cases hltd : (d : Int) < (a1' : Int)
        · obtain ⟨ad2, u, rfl, _, hv, hc2⟩ := HI1.out.at_ (show d < a1' by omega)
          have HFT := Lib.hid (filter_take (q := qq) hv)
          have d0 : (0 : Int) ≤ (d : Int) := by omega
          clear hv
          obtain ⟨t, ht⟩ : ∃ t, zs'.any (fun y => decide (y = u)) = t := ⟨_, rfl⟩
          have HT : Hid (qq u = t) := Lib.hid (by rw [HQ.out]; exact ht)
          go_wp2
          go_quiet ((go_at_call 114; exact quiet_left (l01Has_at _ _ _ zs' u _ t (ints_drewN HI2.out _) ha2 ht)))
          rcases t with _ | _
          ·
            have HR : Hid (wr.ownsRow wo.heap.size 2 1 v ((ys'.take (d + 1)).filter qq).length (intsV ((ys'.take (d + 1)).filter qq))) := Lib.hid (by rw [HFT.out, HT.out]; exact hrow.out)
            have J6 := Lib.hid (hjj.out.drewN nq)
            have B6 := Lib.hid (below_drewN hbel.out nq)
            clear q0 q1 q2 q3 q4 ck cl hc hc' ht hc2
            go_wp2
            go_roundw
            case rel => exact ⟨d + 1, v, rfl, by go_num, by omega, HR, J6, B6⟩
            case measure => simp [intOf]; omega
          ·
            have hll : ((ys'.take d).filter qq).length ≤ d := by
              have h1 := List.length_filter_le qq (ys'.take d)
              rw [List.length_take] at h1
              omega
            obtain ⟨l, hl⟩ : ∃ l, ((ys'.take d).filter qq).length = l := ⟨_, rfl⟩
            rw [hl] at hll
            have HR := hrow.out
            rw [hl] at HR
            have HRR := Lib.hid HR
            have hsz2 := hbel.out.size
            have hbase : ∀ k, v.ownBlock = some k → wo.heap.size ≤ k := rowBase HR
            have J6 := Lib.hid (hjj.out.drewN nq)
            have B6 := Lib.hid (below_drewN hbel.out nq)
            have R6 : Hid ((wr.drewN nq).ownsRow wo.heap.size 2 1 v l (intsV ((ys'.take d).filter qq))) := Lib.hid (rowDrewN HRR.out nq)
            have hc6 : (wr.drewN nq).cell? (ad.add i) = some (.slice (some ad2) a1' cc1) := hc
            have hc26 : (wr.drewN nq).cell? (ad2.add d) = some (.int .i64 u) := hc2
            have hsz6 : wo.heap.size ≤ (wr.drewN nq).heap.size := hsz2
            clear HR q0 q1 q2 q3 q4 ck cl hc hc' ht hc2 HRR hsz2
            generalize wr.drewN nq = wq at *
            obtain ⟨_, _, _, _, _, ck, cl⟩ := J6.out.cells
            go_wp2_with (at_builtin; refine wpList_append_lies _ rfl _ _ 39 rfl wo.heap.size 2 ii _ 1 8 Try.underlying39 HF.out.1 HF.out.2.1 HF.out.2.2.1 HF.out.2.2.2 rfl (by omega) _ l _ rfl (R6.out.alloc _) ⟨wq.heap.size, 0, none⟩ 1 1 [.int .i64 u] rfl rfl (World.news_of_block (cs := #[.int .i64 u]) (t := 2) (fr := (0, 0)) (heap_alloc_new wq _)) (by simp [Value.oneCell']) (by omega) (by unfold maxLen; omega) (by omega) (by simp; omega) (wq.heap.size + 1) (by simp) ?_; intro gg cap w5 hown1 hgrow hat hlt3)
            have R5 : Hid (w5.ownsRow wo.heap.size 2 1 (.slice (some ⟨gg, 0, none⟩) (l + 1) cap) ((ys'.take (d + 1)).filter qq).length (intsV ((ys'.take (d + 1)).filter qq))) := Lib.hid (by
              rw [HFT.out, HT.out]
              simp only [if_true]
              rw [List.length_append, hl, ← intsV_snoc]
              exact hown1)
            have B5 := Lib.hid ((B6.out.alloc hsz6 (.cells #[.int .i64 u] 2)).grown hgrow (by simp; omega) (fun q e => hbase q e))
            have J5 := Lib.hid (hj.out.on B5.out)
            clear hown1 hgrow hat hlt3 hbase hl hc6 hc26 ck cl
            go_wp2
            go_roundw
            case rel => exact ⟨d + 1, _, rfl, by go_num, by omega, R5, J5, B5⟩
            case measure => simp [intOf]; omega
        · have hda : d = a1' := by omega
          have hms : mset yss zss i = ys'.filter qq := by rw [mset_at HY.out HZ.out, HQ.out]
          have hrow2 := hrow.out
          rw [hda, List.take_of_length_le (by rw [HYL.out]; exact Nat.le_refl _), ← hms] at hrow2
          obtain ⟨A, q, rfl, ho, hqc, hqm⟩ := rowInts hrow2 rfl
          have HI := Lib.hid ho.ints
          obtain ⟨l, hl⟩ : ∃ l, (mset yss zss i).length = l := ⟨_, rfl⟩
          have hll : l ≤ a1' := by
            rw [← hl, hms]
            have := List.length_filter_le qq ys'
            rw [HYL.out] at this
            exact this
          rw [hl] at HI hqc ho ⊢
          have HLK := Lib.hid hl
          clear hrow hrow2 hms
          by_cases hl0 : l = 0
          · have ht : ((l : Int) == 0) = true := by simp; omega
            obtain ⟨e1, e2⟩ := meet_none HLL.out.1 HLL.out.2 HNC.out hltn (by rw [HLK.out]; exact hl0)
            have f1 := hjj.out.o.thawed
            have k1 := hjj.out.o.cell
            have HE := Lib.hid (And.intro e1 e2)
            clear e1 e2 hl ho
            go_wp2
            have r0 := (hjj.out.o.put (.slice none 0 0)).cell
            exact bodyPost_ret (v := .tuple #[.agg #[.slice none 0 0], .int .i64 4]) (by simp [results, Try.results39, go_sem, r0]) rfl (by rw [HE.out.1, HE.out.2]; exact ⟨none, 0, 0, rfl, Sets.nil none, Nat.le_refl _, by omega, hjj.out.bel.setCell (by show w.heap.size ≤ w.heap.size + 1 + 1 + 1; omega) _⟩)
          have ht : ((l : Int) == 0) = false := by simp; omega
          have HA : Hid (∀ j, j < i + 1 → (mset yss zss j).length ≠ 0) := Lib.hid (fun j hj' => by
            rcases Nat.lt_or_ge j i with h1 | h1
            · exact hall.out j h1
            · obtain rfl : j = i := by omega
              rw [HLK.out]; exact hl0)
          have hzb : ∀ k, z.ownBlock = some k → k < wo.heap.size := rowTop hst.out.row
          have hzl : ∀ k, z.ownBlock = some k → w.heap.size + 1 + 1 + 1 + 1 ≤ k := rowBase hst.out.row
          have HNE : Hid (0 < l → ∀ ad, A = some ad → z.ownBlock ≠ some ad.block) := Lib.hid (fun hp ad e e2 => by
            subst e
            obtain ⟨_, _, e3, h1, _⟩ := ho.at_ hp
            injection e3 with e3
            subst e3
            have := hzb _ e2
            omega)
          have HS2 := Lib.hid (hst.out.on hbel.out)
          have hlr := hjj.out.o.lt
          clear ho hl
          go_wp2_with (at_builtin; refine wpList_append_lies _ rfl _ _ 26 rfl (w.heap.size + 1 + 1 + 1 + 1) 39 jj _ 1 24 Try.underlying26 HG.out.1 HG.out.2.1 HG.out.2.2.1 HG.out.2.2.2 rfl (by omega) _ i _ rfl (HS2.out.row.alloc _) ⟨wr.heap.size, 0, none⟩ 1 1 [.slice A l q] rfl rfl (World.news_of_block (cs := #[.slice A l q]) (t := 39) (fr := (0, 0)) (heap_alloc_new wr _)) (by simp [Value.oneCell']) (by omega) (by unfold maxLen; omega) (by omega) (by simp; omega) (wr.heap.size + 1) (by simp) ?_; intro gg cap w5 hown1 hgrow hat hlt3)
          have P5 : Hid (Stack w5 (w.heap.size + 1 + 1 + 1 + 1) (.slice (some ⟨gg, 0, none⟩) (i + 1) cap) (i + 1) (vals ++ [.slice A l q]) ((List.range (i + 1)).map (mset yss zss))) := Lib.hid (by
            rw [List.range_succ, List.map_append]
            exact HS2.out.push HI.out hqc hqm HNE.out hown1 hgrow (hat.imp id (fun e => by rw [e]; omega)))
          have J5 := Lib.hid (hjj.out.grown hgrow (fun k e => hzl k e))
          clear hown1 hgrow hat hlt3 hzb hzl q0 q1 q2 q3 q4 ck cl
          go_wp2
          go_roundw
          case rel => exact ⟨i + 1, _, _, rfl, by go_num, by omega, HA, P5, J5⟩
          case measure => simp [intOf]; omega
    · obtain rfl : i = n' := by omega
      obtain ⟨A, c2, rfl, hs1, hc2, hcm2⟩ := hst.out.sets
      obtain ⟨e1, e2⟩ := meet_yes HLL.out.1 HLL.out.2 HNC.out hall.out
      have hf1 := hj.out.o.thawed
      have hk1 := hj.out.o.cell
      have hzl' : ∀ k, (Value.slice A i c2).ownBlock = some k → w.heap.size + 1 + 1 + 1 + 1 ≤ k := rowBase hst.out.row
      have H2 := Lib.hid (hs1.past (p := ⟨w.heap.size + 1 + 1 + 1, 0, none⟩) hj.out.o (fun ad e => by have := hzl' ad.block (by rw [e]; rfl); show ad.block ≠ w.heap.size + 1 + 1 + 1; omega) (.slice A i c2))
      have HE := Lib.hid (And.intro e1 e2)
      clear hs1 e1 e2
      go_wp2
      have r0 := (hj.out.o.put (.slice A i c2)).cell
      exact bodyPost_ret (v := .tuple #[.agg #[.slice A i c2], .int .i64 0]) (by simp [results, Try.results39, go_sem, r0]) rfl (by rw [HE.out.1, HE.out.2]; exact ⟨A, i, c2, rfl, H2.out, hc2, hcm2, hj.out.bel.setCell (by show w.heap.size ≤ w.heap.size + 1 + 1 + 1; omega) _⟩)

end Go.Proofs.Ytbfnffecmglgfaa
