/- WornLock of the model. -/
import Derived.Test.YtbfnffecmglgfaaSWearK
import Derived.Test.YtbfnffecmglgfaaSHull
namespace Go.Proofs.Ytbfnffecmglgfaa
open Go Go.RowKit

set_option maxRecDepth 100000 in
set_option maxHeartbeats 8000000 in
theorem l08Worn_any (m : Mk) (V : Option Addr) (n c : Nat) (yss : List (List Int)) (r : Nat) (t : Int) (w : World) (h : Sets w w.heap.size V n yss) (hn : n + sizeL yss ≤ 1048576) (hL : lockB m yss = true) (hr : r ≤ 20) :
    Calls Try.prog 130 #[.agg #[.int .i64 m.C, .int .i64 m.D, .int .i64 m.S, .int .i64 m.M, .int .i64 m.L], .agg #[.slice V n c], .int .i64 (r : Int), .int .i64 t] w (GivesSets w (wornL m yss t (r + 1))) := by
  obtain ⟨hm, hCn, _⟩ := lockB_facts hL
  have h7 := wk_sets hL
  obtain ⟨m1, m2, m3, m4, m5, m6, m7, m8, m9, m10, m11⟩ := Mk.ok_true hm
  obtain ⟨D, hD⟩ : ∃ D : Nat, m.D.toNat = D := ⟨_, rfl⟩
  have hDD : (D : Int) = m.D := by omega
  have hCC : m.C.toNat = n := by have := h.len; omega
  unfold wornL
  rw [hD, hCC]
  have HS := Lib.hid h
  have H7 := Lib.hid h7
  have HN := Lib.hid hn
  have hn1 : n ≤ 6 := by omega
  obtain ⟨ii, hi0, hz0, hz1, hz2⟩ := info_parts Try.info2'
  have HF := Lib.hid (And.intro hi0 (And.intro hz0 (And.intro hz1 hz2)))
  obtain ⟨jj, hj0, hy0, hy1, hy2⟩ := info_parts Try.info39'
  have HG := Lib.hid (And.intro hj0 (And.intro hy0 (And.intro hy1 hy2)))
  have x0 := Lib.hid ((((Boxed.new w 25 m).alloc (.cells #[.slice V n c] 30)).alloc (.cells #[.slice none 0 0] 30)).alloc (.cells #[] 39))
  have l0 := ((Cell1.new (w.alloc (.cells #[.int .i64 m.C, .int .i64 m.D, .int .i64 m.S, .int .i64 m.M, .int .i64 m.L] 25)) 30 (.slice V n c)).alloc (.cells #[.slice none 0 0] 30)).alloc (.cells #[] 39)
  have k0 := (Cell1.new ((w.alloc (.cells #[.int .i64 m.C, .int .i64 m.D, .int .i64 m.S, .int .i64 m.M, .int .i64 m.L] 25)).alloc (.cells #[.slice V n c] 30)) 30 (.slice none 0 0)).alloc (.cells #[] 39)
  have b0 := Lib.hid (((((Below.refl w.heap.size w).alloc (Nat.le_refl _) (.cells #[.int .i64 m.C, .int .i64 m.D, .int .i64 m.S, .int .i64 m.M, .int .i64 m.L] 25)).alloc (by simp) (.cells #[.slice V n c] 30)).alloc (by simp; omega) (.cells #[.slice none 0 0] 30)).alloc (by simp; omega) (.cells #[] 39))
  have r0 := rowNil (w := ((w.alloc (.cells #[.int .i64 m.C, .int .i64 m.D, .int .i64 m.S, .int .i64 m.M, .int .i64 m.L] 25)).alloc (.cells #[.slice V n c] 30)).alloc (.cells #[.slice none 0 0] 30)) (t := 39) (s := 1) (base := w.heap.size + 1 + 1 + 1) (by simp)
  simp only [World.size_alloc] at l0 k0 r0
  have L0 := Lib.hid l0
  have K0 := Lib.hid k0
  have R0 := Lib.hid (Stack.none_ r0)
  clear h h7 hn hi0 hz0 hz1 hz2 hj0 hy0 hy1 hy2 l0 k0 r0 hm hD hCC hL hCn m1 m2 m5 m6 m7 m8 m9 m10 m11
  go_enter Try.func130, Try.ntmps130
  obtain ⟨q0, q1, q2, q3, q4⟩ := x0.out.cells
  go_wp2
  clear q0 q1 q2 q3 q4
  go_loopw [9, 10] (fun y x wr => ∃ (i : Nat) (vals : List Value) (z : Value), z = y ∧ x = .int .i64 i ∧ i ≤ n ∧ Hid (Stack wr (w.heap.size + 1 + 1 + 1) z i vals ((List.range i).map (fun j => setOf D (mayP (setP yss) t (r + 1) j)))) ∧ Hid (Boxed wr w.heap.size 25 m) ∧ Hid (Cell1 wr (w.heap.size + 1) 30 (.slice V n c)) ∧ Hid (Cell1 wr (w.heap.size + 1 + 1) 30 (.slice none 0 0)) ∧ Hid (Below w.heap.size w wr)) (fun _ x _ => n - (intOf x).toNat)
  case atStart => exact ⟨0, [], _, rfl, rfl, Nat.zero_le _, R0, x0, L0, K0, b0⟩
  case round =>
    obtain ⟨i, vals, z, rfl, rfl, hi, hst, hbox, hlck, hres, hb⟩ := hrel
    clear R0 x0 L0 K0 b0
    obtain ⟨wo, rfl⟩ : ∃ wo, wo = wr := ⟨_, rfl⟩
    have cl := hlck.out.cell
    by_cases hlt : i < n
    · have y0 := Lib.hid (hbox.out.alloc (.cells #[] 2))
      have l1 := Lib.hid (hlck.out.alloc (.cells #[] 2))
      have e0 := Lib.hid ((Below.refl wo.heap.size wo).alloc (Nat.le_refl _) (.cells #[] 2))
      have p0 := Lib.hid (rowNil (w := wo) (t := 2) (s := 1) (base := wo.heap.size) (Nat.le_refl _))
      have hszw := hb.out.size
      obtain ⟨ad, ys, A1, q1, cc1, rfl, hab, hy, _, _, _, _⟩ := HS.out.at_ hlt
      have H7Y := Lib.hid (H7.out i ys hy)
      have HY := Lib.hid hy
      clear hy hab
      go_wp2
      clear cl
      go_loopw [11, 12] (fun y x wr => ∃ (d : Nat) (v : Value), v = y ∧ x = .int .i64 d ∧ d ≤ D ∧ Hid (wr.ownsRow wo.heap.size 2 1 v (setOf d (mayP (setP yss) t (r + 1) i)).length (intsV (setOf d (mayP (setP yss) t (r + 1) i)))) ∧ Hid (Boxed wr w.heap.size 25 m) ∧ Hid (Cell1 wr (w.heap.size + 1) 30 (.slice (some ad) n c)) ∧ Hid (Below wo.heap.size wo wr)) (fun _ x _ => D - (intOf x).toNat)
      case atStart => exact ⟨0, _, rfl, rfl, Nat.zero_le _, p0, y0, l1, e0⟩
      case round =>
        obtain ⟨d, v, rfl, rfl, hd, hrow, hbx, hlk, hbel⟩ := hrel
        clear p0 y0 l1 e0
        obtain ⟨q0, q1, q2, q3, q4⟩ := hbx.out.cells
        by_cases hltd : (d : Int) < m.D
        · have B2 := Lib.hid (hb.out.trans (hbel.out.mono hszw))
          obtain ⟨ad2, ys2, A, q, cc, e2, hab, hy2, hc, hin, _, _⟩ := (HS.out.on B2.out).at_ hlt
          obtain rfl : ad = ad2 := by injection e2
          obtain rfl : ys = ys2 := by have := HY.out; rw [this] at hy2; injection hy2
          have hq2 : q ≤ 1048576 := by have := fits_at HN.out HY.out; have := hin.len; omega
          have HIN := Lib.hid hin
          have ck := hlk.out.cell
          have i0 : (0 : Int) ≤ (i : Int) := by omega
          have i1 : (i : Int) < (n : Int) := by omega
          obtain ⟨b, hbq⟩ : ∃ b, mayP (setP yss) t (r + 1) i d = b := ⟨_, rfl⟩
          have HTT := Lib.hid hbq
          have HTA := Lib.hid ((may_at HY.out H7Y.out t (r + 1) d).trans hbq)
          clear hin hy2 hbq e2
          go_wp2_with fail
          refine (l08Cut_any A q cc ys d r t _ HIN.out hq2 H7Y.out (by omega) hr b _ HTA.out rfl).mono ?_
          rintro e w' ⟨rfl, rfl⟩
          clear hc ck q0 q1 q2 q3 q4 HIN HTA
          rcases b with _ | _
          · have HR : Hid (wr.ownsRow wo.heap.size 2 1 v (setOf (d + 1) (mayP (setP yss) t (r + 1) i)).length (intsV (setOf (d + 1) (mayP (setP yss) t (r + 1) i)))) := Lib.hid (by rw [setOf_snoc, HTT.out]; exact hrow.out)
            go_wp2
            go_roundw
            case rel => exact ⟨d + 1, v, rfl, by go_num, by omega, HR, hbx, hlk, hbel⟩
            case measure => simp [intOf]; omega
          · have hll := setOf_len d (mayP (setP yss) t (r + 1) i)
            obtain ⟨l, hl⟩ : ∃ l, (setOf d (mayP (setP yss) t (r + 1) i)).length = l := ⟨_, rfl⟩
            rw [hl] at hll
            have HR := hrow.out
            rw [hl] at HR
            have HRR := Lib.hid HR
            have hsz2 := hbel.out.size
            have hbase : ∀ k, v.ownBlock = some k → wo.heap.size ≤ k := rowBase HR
            clear HR
            go_wp2_with (at_builtin; refine wpList_append_lies _ rfl _ _ 39 rfl wo.heap.size 2 ii _ 1 8 Try.underlying39 HF.out.1 HF.out.2.1 HF.out.2.2.1 HF.out.2.2.2 rfl (by omega) _ l _ rfl (HRR.out.alloc _) ⟨wr.heap.size, 0, none⟩ 1 1 [.int .i64 (d : Int)] rfl rfl (World.news_of_block (cs := #[.int .i64 (d : Int)]) (t := 2) (fr := (0, 0)) (heap_alloc_new wr _)) (by simp [Value.oneCell']) (by omega) (by unfold maxLen; omega) (by omega) (by simp; omega) (wr.heap.size + 1) (by simp) ?_; intro gg cap w5 hown1 hgrow hat hlt3)
            have R5 : Hid (w5.ownsRow wo.heap.size 2 1 (.slice (some ⟨gg, 0, none⟩) (l + 1) cap) (setOf (d + 1) (mayP (setP yss) t (r + 1) i)).length (intsV (setOf (d + 1) (mayP (setP yss) t (r + 1) i)))) := Lib.hid (by
              rw [setOf_snoc, HTT.out]
              simp only [if_true]
              rw [List.length_append, hl, ← intsV_snoc]
              exact hown1)
            have Y5 := Lib.hid ((hbx.out.alloc (.cells #[.int .i64 (d : Int)] 2)).grown hgrow (by intro e; have := hbase _ e.symm; have := hbox.out.lt; omega))
            have L5 := Lib.hid ((hlk.out.alloc (.cells #[.int .i64 (d : Int)] 2)).grown hgrow (by intro e; have := hbase _ e.symm; have := hlck.out.lt; omega))
            have B5 := Lib.hid ((hbel.out.alloc hsz2 (.cells #[.int .i64 (d : Int)] 2)).grown hgrow (by simp; omega) (fun q e => hbase q e))
            clear hown1 hgrow hat hlt3 hbase hl
            go_wp2
            go_roundw
            case rel => exact ⟨d + 1, _, rfl, by go_num, by omega, R5, Y5, L5, B5⟩
            case measure => simp [intOf]; omega
        · obtain rfl : d = D := by omega
          obtain ⟨A, q, rfl, ho, hqc, hqm⟩ := rowInts hrow.out rfl
          have HI := Lib.hid ho.ints
          have hzb : ∀ k, z.ownBlock = some k → k < wo.heap.size := rowTop hst.out.row
          have hzl : ∀ k, z.ownBlock = some k → w.heap.size + 1 + 1 + 1 ≤ k := rowBase hst.out.row
          have HNE : Hid (0 < (setOf d (mayP (setP yss) t (r + 1) i)).length → ∀ ad, A = some ad → z.ownBlock ≠ some ad.block) := Lib.hid (fun hp ad e e2 => by
            subst e
            obtain ⟨_, _, e3, h1, _⟩ := ho.at_ hp
            injection e3 with e3
            subst e3
            have := hzb _ e2
            omega)
          have HS2 := Lib.hid (hst.out.on hbel.out)
          have hres2 := Lib.hid (Cell1.on hres.out hbel.out)
          have B2 := Lib.hid (hb.out.trans (hbel.out.mono hszw))
          have hb2 := B2.out.size
          have hlr := hres2.out.lt
          have hll2 := hlk.out.lt
          clear ho
          obtain ⟨l, hl⟩ : ∃ l, (setOf d (mayP (setP yss) t (r + 1) i)).length = l := ⟨_, rfl⟩
          have hll := setOf_len d (mayP (setP yss) t (r + 1) i)
          rw [hl] at hll HI HNE hqc ⊢
          have HLL := Lib.hid hl
          clear hrow hl
          go_wp2_with (at_builtin; refine wpList_append_lies _ rfl _ _ 26 rfl (w.heap.size + 1 + 1 + 1) 39 jj _ 1 24 Try.underlying26 HG.out.1 HG.out.2.1 HG.out.2.2.1 HG.out.2.2.2 rfl (by omega) _ i _ rfl (HS2.out.row.alloc _) ⟨wr.heap.size, 0, none⟩ 1 1 [.slice A l q] rfl rfl (World.news_of_block (cs := #[.slice A l q]) (t := 39) (fr := (0, 0)) (heap_alloc_new wr _)) (by simp [Value.oneCell']) (by omega) (by unfold maxLen; omega) (by omega) (by simp; omega) (wr.heap.size + 1) (by simp) ?_; intro gg cap w5 hown1 hgrow hat hlt3)
          have P5 : Hid (Stack w5 (w.heap.size + 1 + 1 + 1) (.slice (some ⟨gg, 0, none⟩) (i + 1) cap) (i + 1) (vals ++ [.slice A l q]) ((List.range (i + 1)).map (fun j => setOf d (mayP (setP yss) t (r + 1) j)))) := Lib.hid (by
            rw [List.range_succ, List.map_append]
            exact HS2.out.push HI.out hqc hqm HNE.out hown1 hgrow (hat.imp id (fun e => by rw [e]; omega)))
          have Y5 := Lib.hid ((hbx.out.alloc (.cells #[.slice A l q] 39)).grown hgrow (by intro e; have := hzl _ e.symm; omega))
          have L5 := Lib.hid ((hlk.out.alloc (.cells #[.slice A l q] 39)).grown hgrow (by intro e; have := hzl _ e.symm; omega))
          have K5 := Lib.hid ((hres2.out.alloc (.cells #[.slice A l q] 39)).grown hgrow (by intro e; have := hzl _ e.symm; omega))
          have B5 := Lib.hid ((B2.out.alloc hb2 (.cells #[.slice A l q] 39)).grown hgrow (by simp; omega) (fun q e => by have := hzl q e; omega))
          clear hown1 hgrow hat hlt3 hzb hzl q0 q1 q2 q3 q4
          go_wp2
          go_roundw
          case rel => exact ⟨i + 1, _, _, rfl, by go_num, by omega, P5, Y5, L5, K5, B5⟩
          case measure => simp [intOf]; omega
    · obtain rfl : i = n := by omega
      obtain ⟨A, c2, rfl, hs1, hc2, hcm2⟩ := hst.out.sets
      have hzl' : ∀ k, (Value.slice A i c2).ownBlock = some k → w.heap.size + 1 + 1 + 1 ≤ k := rowBase hst.out.row
      have hf1 := hres.out.thawed
      have hk1 := hres.out.cell
      have P2 := hst.out.asetCell (p := ⟨w.heap.size + 1 + 1, 0, none⟩) (by show w.heap.size + 1 + 1 < w.heap.size + 1 + 1 + 1; omega) hres.out (.slice A i c2)
      obtain ⟨A', c3, e3, hs2, _⟩ := P2.sets
      have e4 : A' = A := by injection e3 with e3; exact e3.symm
      subst e4
      have H2 := Lib.hid hs2
      clear hs1 P2 e3 hs2
      go_wp2
      have L1 := hres.out.put (.slice A' i c2)
      have r0 := L1.cell
      refine bodyPost_ret (v := .agg #[.slice A' i c2]) (by simp [results, Try.results130, go_sem, r0]) rfl ⟨A', i, c2, rfl, H2.out, hc2, hcm2, hb.out.setCell (by show w.heap.size ≤ w.heap.size + 1 + 1; omega) _, fun ad e => by have := hzl' ad.block (by rw [e]; rfl); omega⟩

set_option maxHeartbeats 2000000 in
theorem l08Lock_any (m : Mk) (V : Option Addr) (n c : Nat) (yss : List (List Int)) (wr t : Int) (w : World) (h : Sets w w.heap.size V n yss) (hn : n + sizeL yss ≤ 1048576) :
    Calls Try.prog 129 #[.agg #[.int .i64 m.C, .int .i64 m.D, .int .i64 m.S, .int .i64 m.M, .int .i64 m.L], .agg #[.slice V n c], .int .i64 wr, .int .i64 t] w fun e w' => e = .returned (.int .i64 (wlkE m yss wr t)) ∧ Below w.heap.size w w' := by
  have x0 := (Boxed.new w 25 m).alloc (.cells #[.slice V n c] 30)
  have k0 := Cell1.new (w.alloc (.cells #[.int .i64 m.C, .int .i64 m.D, .int .i64 m.S, .int .i64 m.M, .int .i64 m.L] 25)) 30 (.slice V n c)
  have c0 := ((Below.refl w.heap.size w).alloc (Nat.le_refl _) (.cells #[.int .i64 m.C, .int .i64 m.D, .int .i64 m.S, .int .i64 m.M, .int .i64 m.L] 25)).alloc (by simp) (.cells #[.slice V n c] 30)
  rw [World.size_alloc] at k0
  obtain ⟨q0, q1, q2, q3, q4⟩ := x0.cells
  have ck := k0.cell
  have hs := h.on c0
  have HN := Lib.hid hn
  clear h hn
  unfold wlkE
  rcases hL : lockB m yss with _ | _
  · go_enter Try.func129, Try.ntmps129
    go_wp2_with fail
    refine (specIsLock_any m _ _ _ yss _ hs HN.out).mono ?_
    rw [hL]
    rintro e w1 ⟨rfl, b1⟩
    have c1 := below_trans' c0 b1
    go_wp2
    go_ret
    exact ⟨rfl, c1⟩
  · obtain ⟨b, hb⟩ : ∃ b, isFit wr t = b := ⟨_, rfl⟩
    have HB := Lib.hid hb
    rw [hb]
    clear hb
    go_enter Try.func129, Try.ntmps129
    go_wp2_with fail
    refine (specIsLock_any m _ _ _ yss _ hs HN.out).mono ?_
    rw [hL]
    rintro e w1 ⟨rfl, b1⟩
    have c1 := below_trans' c0 b1
    go_wp2_with fail
    refine (l08Numbers_any wr t _ b HB.out).mono ?_
    rintro e w2 ⟨rfl, rfl⟩
    rcases b with _ | _
    · go_wp2
      go_ret
      exact ⟨rfl, c1⟩
    · go_wp2
      go_ret
      exact ⟨rfl, c1⟩

theorem wlkE_facts {m : Mk} {yss : List (List Int)} {wr t : Int} (h : wlkE m yss wr t = 0) : lockB m yss = true ∧ isFit wr t = true := by
  unfold wlkE at h
  rcases hL : lockB m yss with _ | _
  · rw [hL] at h; simp at h
  · rcases hF : isFit wr t with _ | _
    · rw [hL, hF] at h; simp at h
    · exact ⟨rfl, rfl⟩
theorem wlkL_not {m : Mk} {yss : List (List Int)} {wr t : Int} (h : wlkE m yss wr t ≠ 0) : wlkL m yss wr t = [] := by
  unfold wlkL
  rcases hL : lockB m yss with _ | _
  · rfl
  · rcases hF : isFit wr t with _ | _
    · rfl
    · unfold wlkE at h
      rw [hL, hF] at h
      simp at h
set_option maxHeartbeats 4000000 in
theorem specWornLock_any (m : Mk) (V : Option Addr) (n c : Nat) (yss : List (List Int)) (wr t : Int) (w : World) (h : Sets w w.heap.size V n yss) (hn : n + sizeL yss ≤ 1048576) :
    Calls Try.prog 71 #[.agg #[.int .i64 m.C, .int .i64 m.D, .int .i64 m.S, .int .i64 m.M, .int .i64 m.L], .agg #[.slice V n c], .int .i64 wr, .int .i64 t] w (GivesSetsE w (wlkE m yss wr t) (wlkL m yss wr t)) := by
  have x0 := ((Boxed.new w 25 m).alloc (.cells #[.slice V n c] 30)).alloc (.cells #[.slice none 0 0] 30)
  have k0 := (Cell1.new (w.alloc (.cells #[.int .i64 m.C, .int .i64 m.D, .int .i64 m.S, .int .i64 m.M, .int .i64 m.L] 25)) 30 (.slice V n c)).alloc (.cells #[.slice none 0 0] 30)
  have o0 := Cell1.new ((w.alloc (.cells #[.int .i64 m.C, .int .i64 m.D, .int .i64 m.S, .int .i64 m.M, .int .i64 m.L] 25)).alloc (.cells #[.slice V n c] 30)) 30 (.slice none 0 0)
  have c0 := (((Below.refl w.heap.size w).alloc (Nat.le_refl _) (.cells #[.int .i64 m.C, .int .i64 m.D, .int .i64 m.S, .int .i64 m.M, .int .i64 m.L] 25)).alloc (by simp) (.cells #[.slice V n c] 30)).alloc (by simp; omega) (.cells #[.slice none 0 0] 30)
  simp only [World.size_alloc] at k0 o0
  obtain ⟨q0, q1, q2, q3, q4⟩ := x0.cells
  have ck := k0.cell
  have hs := h.on c0
  have HN := Lib.hid hn
  clear h hn
  by_cases hz : wlkE m yss wr t = 0
  · obtain ⟨hL, hF⟩ := wlkE_facts hz
    have HZ := Lib.hid hz
    have HV : Hid (wlkL m yss wr t = wornL m yss t (plc wr)) := Lib.hid (by unfold wlkL; rw [hL, hF]; rfl)
    rw [HV.out, HZ.out]
    obtain ⟨r0, r1, t0, t1⟩ := fit_facts hF
    obtain ⟨rn, rfl⟩ : ∃ rn : Nat, wr = (rn : Int) := ⟨wr.toNat, by omega⟩
    have hpl : plc (rn : Int) = rn + 1 := by unfold plc; omega
    rw [hpl]
    have HLL := Lib.hid hL
    clear hz hL hF HV
    go_enter Try.func71, Try.ntmps71
    go_wp2_with fail
    refine (l08Lock_any m _ _ _ yss _ t _ hs HN.out).mono ?_
    rw [HZ.out]
    rintro e w1 ⟨rfl, b1⟩
    have c1 := below_trans' c0 b1
    have s1 := hs.on b1
    have x1 := x0.on b1
    have k1 := k0.on b1
    have o1 := o0.on b1
    clear q0 q1 q2 q3 q4 ck
    obtain ⟨q0, q1, q2, q3, q4⟩ := x1.cells
    have ck := k1.cell
    go_wp2_with fail
    refine (l08Worn_any m _ _ _ yss rn t _ s1 HN.out HLL.out (by omega)).mono ?_
    rintro e w3 ⟨V3, n3, c3, rfl, hs3, hc3, hcm3, b3, hV3⟩
    have c4 := below_trans' c1 b3
    have o3 := o1.on b3
    have f3 := o3.thawed
    have k3 := o3.cell
    have H3 := Lib.hid hs3
    have hb2 := o1.lt
    have HV3 := Lib.hid hV3
    clear q0 q1 q2 q3 q4 ck hs3 hV3
    go_wp2
    have L1 := o3.put (.slice V3 n3 c3)
    have r0 := L1.cell
    refine bodyPost_ret (v := .tuple #[.agg #[.slice V3 n3 c3], .int .i64 0]) (by simp [results, Try.results71, go_sem, r0]) rfl ⟨V3, n3, c3, rfl, ?_, hc3, hcm3, c4.setCell (by simp; omega) _⟩
    exact H3.out.past (p := ⟨w.heap.size + 1 + 1, 0, none⟩) o3 (fun ad e => by have := HV3.out ad e; show ad.block ≠ w.heap.size + 1 + 1; omega) _
  · have HV := Lib.hid (wlkL_not hz)
    rw [HV.out]
    have htest : (wlkE m yss wr t != 0) = true := by simpa using hz
    obtain ⟨z, hz2⟩ : ∃ z, wlkE m yss wr t = z := ⟨_, rfl⟩
    rw [hz2] at htest ⊢
    have HZ2 := Lib.hid hz2
    clear hz hz2 HV
    go_enter Try.func71, Try.ntmps71
    go_wp2_with fail
    refine (l08Lock_any m _ _ _ yss _ t _ hs HN.out).mono ?_
    rw [HZ2.out]
    rintro e w1 ⟨rfl, b1⟩
    have c1 := below_trans' c0 b1
    have o1 := o0.on b1
    have f1 := o1.thawed
    have k1 := o1.cell
    clear q0 q1 q2 q3 q4 ck
    go_wp2
    have L1 := o1.put (.slice none 0 0)
    have r0 := L1.cell
    exact bodyPost_ret (v := .tuple #[.agg #[.slice none 0 0], .int .i64 z]) (by simp [results, Try.results71, go_sem, r0]) rfl ⟨none, 0, 0, rfl, Sets.nil none, Nat.le_refl _, by omega, c1.setCell (by simp; omega) _⟩

end Go.Proofs.Ytbfnffecmglgfaa
