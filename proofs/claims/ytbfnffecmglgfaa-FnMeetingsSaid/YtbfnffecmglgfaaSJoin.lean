/- JoinLocks of the model. -/
import Derived.Test.YtbfnffecmglgfaaTwo
namespace Go.Proofs.Ytbfnffecmglgfaa
open Go Go.RowKit

theorem two_no {m : Mk} {yss zss : List (List Int)} (h : lockB m yss = false ∨ lockB m zss = false) : twoE m yss zss = 1 ∧ jnL m yss zss = [] := by
  unfold twoE jnL
  rcases h with h | h <;> simp [h]
theorem two_yes {m : Mk} {yss zss : List (List Int)} (h : lockB m yss = true) (h2 : lockB m zss = true) : twoE m yss zss = 0 ∧ jnL m yss zss = lockOf m.C.toNat m.D.toNat (joinP yss zss) := by
  unfold twoE jnL
  simp [h, h2]

set_option maxRecDepth 100000 in
set_option maxHeartbeats 8000000 in
theorem specJoinLocks_any (m : Mk) (V : Option Addr) (n c : Nat) (yss : List (List Int)) (V' : Option Addr) (n' c' : Nat) (zss : List (List Int)) (w : World) (h : Sets w w.heap.size V n yss) (hn : n + sizeL yss ≤ 1048576) (h' : Sets w w.heap.size V' n' zss) (hn' : n' + sizeL zss ≤ 1048576) :
    Calls Try.prog 41 #[.agg #[.int .i64 m.C, .int .i64 m.D, .int .i64 m.S, .int .i64 m.M, .int .i64 m.L], .agg #[.slice V n c], .agg #[.slice V' n' c']] w (GivesSetsE w (twoE m yss zss) (jnL m yss zss)) := by
  have HLY := Lib.hid h.len
  have HLZ := Lib.hid h'.len
  have J0 := Lib.hid (JArg.new (m := m) (c := c) (c' := c') h h')
  have HN := Lib.hid hn
  have HN' := Lib.hid hn'
  clear h h' hn hn'
  obtain ⟨q0, q1, q2, q3, q4, ck, cl⟩ := J0.out.cells
  rcases hL : lockB m yss with _ | _
  · rw [(two_no (.inl hL)).1, (two_no (.inl hL)).2]
    go_enter Try.func41, Try.ntmps41
    go_wp2_with fail
    refine (specIsLock_any m _ _ _ yss _ J0.out.saw HN.out).mono ?_
    rw [hL]
    rintro e w1 ⟨rfl, b1⟩
    have J1 := Lib.hid (J0.out.on b1)
    have f1 := J1.out.o.thawed
    have k1 := J1.out.o.cell
    clear q0 q1 q2 q3 q4 ck cl
    go_wp2
    have r0 := (J1.out.o.put (.slice none 0 0)).cell
    exact bodyPost_ret (v := .tuple #[.agg #[.slice none 0 0], .int .i64 1]) (by simp [results, Try.results41, go_sem, r0]) rfl ⟨none, 0, 0, rfl, Sets.nil none, Nat.le_refl _, by omega, J1.out.bel.setCell (by simp; omega) _⟩
  rcases hL' : lockB m zss with _ | _
  · rw [(two_no (.inr hL')).1, (two_no (.inr hL')).2]
    go_enter Try.func41, Try.ntmps41
    go_wp2_with fail
    refine (specIsLock_any m _ _ _ yss _ J0.out.saw HN.out).mono ?_
    rw [hL]
    rintro e w1 ⟨rfl, b1⟩
    have J1 := Lib.hid (J0.out.on b1)
    clear q0 q1 q2 q3 q4 ck cl J0 b1
    obtain ⟨q0, q1, q2, q3, q4, ck, cl⟩ := J1.out.cells
    go_wp2_with fail
    refine (specIsLock_any m _ _ _ zss _ J1.out.sbw HN'.out).mono ?_
    rw [hL']
    rintro e w2 ⟨rfl, b2⟩
    have J2 := Lib.hid (J1.out.on b2)
    have f1 := J2.out.o.thawed
    have k1 := J2.out.o.cell
    clear q0 q1 q2 q3 q4 ck cl
    go_wp2
    have r0 := (J2.out.o.put (.slice none 0 0)).cell
    exact bodyPost_ret (v := .tuple #[.agg #[.slice none 0 0], .int .i64 1]) (by simp [results, Try.results41, go_sem, r0]) rfl ⟨none, 0, 0, rfl, Sets.nil none, Nat.le_refl _, by omega, J2.out.bel.setCell (by simp; omega) _⟩
  rw [(two_yes hL hL').1, (two_yes hL hL').2]
  obtain ⟨hm, hC1, _⟩ := lockB_facts hL
  obtain ⟨_, hC2, _⟩ := lockB_facts hL'
  obtain ⟨m1, m2, m3, m4, m5, m6, m7, m8, m9, m10, m11⟩ := Mk.ok_true hm
  obtain ⟨D, hD⟩ : ∃ D : Nat, m.D.toNat = D := ⟨_, rfl⟩
  have hDD : (D : Int) = m.D := by omega
  have hnC : m.C.toNat = n := by have := HLY.out; omega
  have hnn : n' = n := by have := HLY.out; have := HLZ.out; omega
  have hn6 : n ≤ 6 := by omega
  rw [hD, hnC]
  subst hnn
  obtain ⟨ii, hi0, hz0, hz1, hz2⟩ := info_parts Try.info2'
  have HF := Lib.hid (And.intro hi0 (And.intro hz0 (And.intro hz1 hz2)))
  obtain ⟨jj, hj0, hy0, hy1, hy2⟩ := info_parts Try.info39'
  have HG := Lib.hid (And.intro hj0 (And.intro hy0 (And.intro hy1 hy2)))
  clear hi0 hz0 hz1 hz2 hj0 hy0 hy1 hy2 hm hC1 hC2 hD hnC
  go_enter Try.func41, Try.ntmps41
  go_wp2_with fail
  refine (specIsLock_any m _ _ _ yss _ J0.out.saw HN.out).mono ?_
  rw [hL]
  rintro e w1 ⟨rfl, b1⟩
  have J1 := Lib.hid (J0.out.on b1)
  clear q0 q1 q2 q3 q4 ck cl J0 b1
  obtain ⟨q0, q1, q2, q3, q4, ck, cl⟩ := J1.out.cells
  go_wp2_with fail
  refine (specIsLock_any m _ _ _ zss _ J1.out.sbw HN'.out).mono ?_
  rw [hL']
  rintro e w2 ⟨rfl, b2⟩
  have J2 := Lib.hid (J1.out.on b2)
  have J3 := Lib.hid (J2.out.alloc (.cells #[] 39))
  have hz2 := J2.out.o.lt
  have R0 := Lib.hid (Stack.none_ (rowNil (w := w2) (t := 39) (s := 1) (base := w.heap.size + 1 + 1 + 1 + 1) (by omega)))
  clear q0 q1 q2 q3 q4 ck cl J1 b2 J2 hL hL'
  go_wp2
  go_loopw [8, 9] (fun y x wr => ∃ (i : Nat) (vals : List Value) (z : Value), z = y ∧ x = .int .i64 i ∧ i ≤ n' ∧ Hid (Stack wr (w.heap.size + 1 + 1 + 1 + 1) z i vals ((List.range i).map (fun j => setOf D (joinP yss zss j)))) ∧ Hid (JArg w wr m V n' c yss V' n' c' zss)) (fun _ x _ => n' - (intOf x).toNat)
  case atStart => exact ⟨0, [], _, rfl, rfl, Nat.zero_le _, R0, J3⟩
  case round =>
    obtain ⟨i, vals, z, rfl, rfl, hi, hst, hj⟩ := hrel
    clear R0 J3
    obtain ⟨wo, rfl⟩ : ∃ wo, wo = wr := ⟨_, rfl⟩
    obtain ⟨q0, q1, q2, q3, q4, ck, cl⟩ := hj.out.cells
    by_cases hlt : (i : Int) < (n' : Int)
    · have y0 := Lib.hid (hj.out.alloc (.cells #[] 2))
      have e0 := Lib.hid ((Below.refl wo.heap.size wo).alloc (Nat.le_refl _) (.cells #[] 2))
      have p0 := Lib.hid (rowNil (w := wo) (t := 2) (s := 1) (base := wo.heap.size) (Nat.le_refl _))
      have hoz := hj.out.o.lt
      go_wp2
      clear q0 q1 q2 q3 q4 ck cl
      go_loopw [10, 11] (fun y x wr => ∃ (d : Nat) (v : Value), v = y ∧ x = .int .i64 d ∧ d ≤ D ∧ Hid (wr.ownsRow wo.heap.size 2 1 v (setOf d (joinP yss zss i)).length (intsV (setOf d (joinP yss zss i)))) ∧ Hid (JArg w wr m V n' c yss V' n' c' zss) ∧ Hid (Below wo.heap.size wo wr)) (fun _ x _ => D - (intOf x).toNat)
      case atStart => exact ⟨0, _, rfl, rfl, Nat.zero_le _, p0, y0, e0⟩
      case round =>
        obtain ⟨d, v, rfl, rfl, hd, hrow, hjj, hbel⟩ := hrel
        clear p0 y0 e0
        obtain ⟨q0, q1, q2, q3, q4, ck, cl⟩ := hjj.out.cells
        by_cases hltd : (d : Int) < m.D
        · have hltn : i < n' := by omega
          obtain ⟨ad, ys, A1, a1, cc1, rfl, _, hy, hc, hi1, _, _⟩ := hjj.out.saw.at_ hltn
          obtain ⟨ad', zs, A2, a2, cc2, rfl, _, hz, hc', hi2, _, _⟩ := hjj.out.sbw.at_ hltn
          have ha1 : a1 ≤ 1048576 := by have := fits_at HN.out hy; have := hi1.len; omega
          have ha2 : a2 ≤ 1048576 := by have := fits_at HN'.out hz; have := hi2.len; omega
          have HI1 := Lib.hid hi1
          have HI2 := Lib.hid hi2
          have i0 : (0 : Int) ≤ (i : Int) := by omega
          have HJP : Hid (joinP yss zss i d = (ys.any (fun u => decide (u = (d : Int))) || zs.any (fun u => decide (u = (d : Int))))) := Lib.hid (by unfold joinP setP; rw [getD_list hy, getD_list hz])
          clear hy hz hi1 hi2
          obtain ⟨t1, ht1⟩ : ∃ t, ys.any (fun u => decide (u = (d : Int))) = t := ⟨_, rfl⟩
          obtain ⟨t2, ht2⟩ : ∃ t, zs.any (fun u => decide (u = (d : Int))) = t := ⟨_, rfl⟩
          obtain ⟨t, ht⟩ : ∃ t, joinP yss zss i d = t := ⟨_, rfl⟩
          have HT := Lib.hid ht
          have HT1 := Lib.hid ht1
          have HT2 := Lib.hid ht2
          have ht3 : t = (t1 || t2) := by rw [← ht, HJP.out, ht1, ht2]
          clear ht ht1 ht2
          go_wp2_with fail
          refine (l01Has_at _ _ _ ys (d : Int) _ t1 HI1.out ha1 HT1.out).mono ?_
          rintro e w' ⟨rfl, rfl⟩
          rcases t1 with _ | _
          · go_wp2_with fail
            refine (l01Has_at _ _ _ zs (d : Int) _ t2 HI2.out ha2 HT2.out).mono ?_
            rintro e w' ⟨rfl, rfl⟩
            rcases t2 with _ | _
            · obtain rfl : t = false := by rw [ht3]; rfl
              clear ht3
              have HR : Hid (wr.ownsRow wo.heap.size 2 1 v (setOf (d + 1) (joinP yss zss i)).length (intsV (setOf (d + 1) (joinP yss zss i)))) := Lib.hid (by rw [setOf_snoc, HT.out]; exact hrow.out)
              clear q0 q1 q2 q3 q4 ck cl hc hc'
              go_wp2
              go_roundw
              case rel => exact ⟨d + 1, v, rfl, by go_num, by omega, HR, hjj, hbel⟩
              case measure => simp [intOf]; omega
            · obtain rfl : t = true := by rw [ht3]; rfl
              clear ht3
              have hll := setOf_len d (joinP yss zss i)
              obtain ⟨l, hl⟩ : ∃ l, (setOf d (joinP yss zss i)).length = l := ⟨_, rfl⟩
              rw [hl] at hll
              have HR := hrow.out
              rw [hl] at HR
              have HRR := Lib.hid HR
              have hsz2 := hbel.out.size
              have hbase : ∀ k, v.ownBlock = some k → wo.heap.size ≤ k := rowBase HR
              clear HR q0 q1 q2 q3 q4 ck cl hc hc'
              go_wp2_with (at_builtin; refine wpList_append_lies _ rfl _ _ 39 rfl wo.heap.size 2 ii _ 1 8 Try.underlying39 HF.out.1 HF.out.2.1 HF.out.2.2.1 HF.out.2.2.2 rfl (by omega) _ l _ rfl (HRR.out.alloc _) ⟨wr.heap.size, 0, none⟩ 1 1 [.int .i64 (d : Int)] rfl rfl (World.news_of_block (cs := #[.int .i64 (d : Int)]) (t := 2) (fr := (0, 0)) (heap_alloc_new wr _)) (by simp [Value.oneCell']) (by omega) (by unfold maxLen; omega) (by omega) (by simp; omega) (wr.heap.size + 1) (by simp) ?_; intro gg cap w5 hown1 hgrow hat hlt3)
              have R5 : Hid (w5.ownsRow wo.heap.size 2 1 (.slice (some ⟨gg, 0, none⟩) (l + 1) cap) (setOf (d + 1) (joinP yss zss i)).length (intsV (setOf (d + 1) (joinP yss zss i)))) := Lib.hid (by
                rw [setOf_snoc, HT.out]
                simp only [if_true]
                rw [List.length_append, hl, ← intsV_snoc]
                exact hown1)
              have B5 := Lib.hid ((hbel.out.alloc hsz2 (.cells #[.int .i64 (d : Int)] 2)).grown hgrow (by simp; omega) (fun q e => hbase q e))
              have J5 := Lib.hid (hj.out.on B5.out)
              clear hown1 hgrow hat hlt3 hbase hl
              go_wp2
              go_roundw
              case rel => exact ⟨d + 1, _, rfl, by go_num, by omega, R5, J5, B5⟩
              case measure => simp [intOf]; omega
          · obtain rfl : t = true := by rw [ht3]; rfl
            clear ht3
            have hll := setOf_len d (joinP yss zss i)
            obtain ⟨l, hl⟩ : ∃ l, (setOf d (joinP yss zss i)).length = l := ⟨_, rfl⟩
            rw [hl] at hll
            have HR := hrow.out
            rw [hl] at HR
            have HRR := Lib.hid HR
            have hsz2 := hbel.out.size
            have hbase : ∀ k, v.ownBlock = some k → wo.heap.size ≤ k := rowBase HR
            clear HR q0 q1 q2 q3 q4 ck cl hc hc'
            go_wp2_with (at_builtin; refine wpList_append_lies _ rfl _ _ 39 rfl wo.heap.size 2 ii _ 1 8 Try.underlying39 HF.out.1 HF.out.2.1 HF.out.2.2.1 HF.out.2.2.2 rfl (by omega) _ l _ rfl (HRR.out.alloc _) ⟨wr.heap.size, 0, none⟩ 1 1 [.int .i64 (d : Int)] rfl rfl (World.news_of_block (cs := #[.int .i64 (d : Int)]) (t := 2) (fr := (0, 0)) (heap_alloc_new wr _)) (by simp [Value.oneCell']) (by omega) (by unfold maxLen; omega) (by omega) (by simp; omega) (wr.heap.size + 1) (by simp) ?_; intro gg cap w5 hown1 hgrow hat hlt3)
            have R5 : Hid (w5.ownsRow wo.heap.size 2 1 (.slice (some ⟨gg, 0, none⟩) (l + 1) cap) (setOf (d + 1) (joinP yss zss i)).length (intsV (setOf (d + 1) (joinP yss zss i)))) := Lib.hid (by
              rw [setOf_snoc, HT.out]
              simp only [if_true]
              rw [List.length_append, hl, ← intsV_snoc]
              exact hown1)
            have B5 := Lib.hid ((hbel.out.alloc hsz2 (.cells #[.int .i64 (d : Int)] 2)).grown hgrow (by simp; omega) (fun q e => hbase q e))
            have J5 := Lib.hid (hj.out.on B5.out)
            clear hown1 hgrow hat hlt3 hbase hl
            go_wp2
            go_roundw
            case rel => exact ⟨d + 1, _, rfl, by go_num, by omega, R5, J5, B5⟩
            case measure => simp [intOf]; omega
        · obtain rfl : d = D := by omega
          obtain ⟨A, q, rfl, ho, hqc, hqm⟩ := rowInts hrow.out rfl
          have HI := Lib.hid ho.ints
          have hzb : ∀ k, z.ownBlock = some k → k < wo.heap.size := rowTop hst.out.row
          have hzl : ∀ k, z.ownBlock = some k → w.heap.size + 1 + 1 + 1 + 1 ≤ k := rowBase hst.out.row
          have HNE : Hid (0 < (setOf d (joinP yss zss i)).length → ∀ ad, A = some ad → z.ownBlock ≠ some ad.block) := Lib.hid (fun hp ad e e2 => by
            subst e
            obtain ⟨_, _, e3, h1, _⟩ := ho.at_ hp
            injection e3 with e3
            subst e3
            have := hzb _ e2
            omega)
          have HS2 := Lib.hid (hst.out.on hbel.out)
          have hlr := hjj.out.o.lt
          clear ho
          obtain ⟨l, hl⟩ : ∃ l, (setOf d (joinP yss zss i)).length = l := ⟨_, rfl⟩
          have hll := setOf_len d (joinP yss zss i)
          rw [hl] at hll HI HNE hqc ⊢
          clear hrow hl
          go_wp2_with (at_builtin; refine wpList_append_lies _ rfl _ _ 26 rfl (w.heap.size + 1 + 1 + 1 + 1) 39 jj _ 1 24 Try.underlying26 HG.out.1 HG.out.2.1 HG.out.2.2.1 HG.out.2.2.2 rfl (by omega) _ i _ rfl (HS2.out.row.alloc _) ⟨wr.heap.size, 0, none⟩ 1 1 [.slice A l q] rfl rfl (World.news_of_block (cs := #[.slice A l q]) (t := 39) (fr := (0, 0)) (heap_alloc_new wr _)) (by simp [Value.oneCell']) (by omega) (by unfold maxLen; omega) (by omega) (by simp; omega) (wr.heap.size + 1) (by simp) ?_; intro gg cap w5 hown1 hgrow hat hlt3)
          have P5 : Hid (Stack w5 (w.heap.size + 1 + 1 + 1 + 1) (.slice (some ⟨gg, 0, none⟩) (i + 1) cap) (i + 1) (vals ++ [.slice A l q]) ((List.range (i + 1)).map (fun j => setOf d (joinP yss zss j)))) := Lib.hid (by
            rw [List.range_succ, List.map_append]
            exact HS2.out.push HI.out hqc hqm HNE.out hown1 hgrow (hat.imp id (fun e => by rw [e]; omega)))
          have J5 := Lib.hid (hjj.out.grown hgrow (fun k e => hzl k e))
          clear hown1 hgrow hat hlt3 hzb hzl q0 q1 q2 q3 q4 ck cl
          go_wp2
          go_roundw
          case rel => exact ⟨i + 1, _, _, rfl, by go_num, by omega, P5, J5⟩
          case measure => simp [intOf]; omega
    · obtain rfl : i = n' := by omega
      obtain ⟨A, c2, rfl, hs1, hc2, hcm2⟩ := hst.out.sets
      have hf1 := hj.out.o.thawed
      have hk1 := hj.out.o.cell
      have hzl' : ∀ k, (Value.slice A i c2).ownBlock = some k → w.heap.size + 1 + 1 + 1 + 1 ≤ k := rowBase hst.out.row
      have H2 := Lib.hid (hs1.past (p := ⟨w.heap.size + 1 + 1 + 1, 0, none⟩) hj.out.o (fun ad e => by have := hzl' ad.block (by rw [e]; rfl); show ad.block ≠ w.heap.size + 1 + 1 + 1; omega) (.slice A i c2))
      clear hs1
      go_wp2
      have r0 := (hj.out.o.put (.slice A i c2)).cell
      exact bodyPost_ret (v := .tuple #[.agg #[.slice A i c2], .int .i64 0]) (by simp [results, Try.results41, go_sem, r0]) rfl ⟨A, i, c2, rfl, H2.out, hc2, hcm2, hj.out.bel.setCell (by show w.heap.size ≤ w.heap.size + 1 + 1 + 1; omega) _⟩

end Go.Proofs.Ytbfnffecmglgfaa
