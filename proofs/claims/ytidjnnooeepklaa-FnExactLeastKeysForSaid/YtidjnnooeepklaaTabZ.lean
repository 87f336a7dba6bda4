/- The model's TurnTable. -/
import Derived.Test.YtidjnnooeepklaaTabU
namespace Go.Proofs.Ytidjnnooeepklaa
open Go Go.RowKit

theorem Pile.capsT {w : World} {lo n p c : Nat} {V : Option Addr} {gs : List (Addr × Nat)} {yss : List (List Int)} (h : Pile w lo (.slice V n c) n p gs yss) : n ≤ c ∧ c ≤ 9223372036854775807 := by
  rcases h.row.2 with ⟨e, h0⟩ | ⟨g, cap, cur, e, _, _, h1, h2, _⟩
  · injection e with _ _ e; omega
  · injection e with _ _ e; unfold maxLen at h2; omega
theorem Pile.own_ltT {w : World} {lo n p : Nat} {v : Value} {gs : List (Addr × Nat)} {yss : List (List Int)} (h : Pile w lo v n p gs yss) : ∀ b, v.ownBlock = some b → b < w.heap.size := fun b e => by
  rcases h.row.2 with ⟨e1, _⟩ | ⟨g', cap', cur, e1, _, hg', _⟩
  · rw [e1] at e; cases e
  · have h1 := heapLt hg'
    rw [e1] at e
    have : g' = b := by simpa [Value.ownBlock] using e
    omega
theorem Pile.each_ltT {w : World} {lo n p : Nat} {v : Value} {gs : List (Addr × Nat)} {yss : List (List Int)} (h : Pile w lo v n p gs yss) : ∀ b ∈ gs, b.1.block < w.heap.size := fun b hb => by
  obtain ⟨j, hj, e⟩ := List.getElem_of_mem hb
  have hy : j < yss.length := by rw [h.len, ← h.glen]; exact hj
  obtain ⟨hs, _⟩ := h.inner j b _ (by rw [List.getElem?_eq_getElem hj, e]) (List.getElem?_eq_getElem hy)
  exact hs.lt

set_option maxRecDepth 100000 in
set_option maxHeartbeats 2000000 in

/-- a column: the first t entries of it -/
def trTo (T : List (List Int)) (k t : Nat) : List Int := (T.take t).map fun xs => xs.getD k 0
def trRow (T : List (List Int)) (k : Nat) : List Int := T.map fun xs => xs.getD k 0
theorem trTo_step {T : List (List Int)} {k t n : Nat} (hl : T.length = n) (ht : t < n) : trTo T k (t + 1) = trTo T k t ++ [(getR T t).getD k 0] := by
  unfold trTo
  have hy : t < T.length := by omega
  rw [List.take_succ_eq_append_getElem hy, List.map_append]
  have hg : getR T t = T[t] := by unfold getR; rw [List.getD_eq_getElem?_getD, List.getElem?_eq_getElem hy]; rfl
  rw [hg]; rfl
theorem trTo_all {T : List (List Int)} {k n : Nat} (hl : T.length = n) : trTo T k n = trRow T k := by
  unfold trTo trRow; rw [List.take_of_length_le (by omega)]
theorem trT_is {T : List (List Int)} (h : tE T = 0) : trT T = (List.range (colT T)).map (trRow T) := by
  unfold trT; rw [if_pos h]; rfl
theorem range_step (T : List (List Int)) (j : Nat) : (List.range (j + 1)).map (trRow T) = (List.range j).map (trRow T) ++ [trRow T j] := by
  rw [List.range_succ, List.map_append]; rfl

set_option maxRecDepth 100000 in
set_option maxHeartbeats 4000000 in
theorem specTurnTable_any (V : Option Addr) (n c : Nat) (T : List (List Int)) (w : World) (h : Sets w w.heap.size V n T) (hn : n + sizeL T ≤ 1048576) :
    Calls Try.prog 23 #[.slice V n c] w (GivesRagE w (tE T) (trT T)) := by
  have HL := Lib.hid h.len
  have HN := Lib.hid hn
  have H := Lib.hid h
  clear h hn
  obtain ⟨ii, hi0, hz0, hz1, hz2⟩ := info_parts Try.info2'
  have HF := Lib.hid (And.intro hi0 (And.intro hz0 (And.intro hz1 hz2)))
  clear hi0 hz0 hz1 hz2
  obtain ⟨jj, hj0, hy0, hy1, hy2⟩ := info_parts Try.info27'
  have HG2 := Lib.hid (And.intro hj0 (And.intro hy0 (And.intro hy1 hy2)))
  clear hj0 hy0 hy1 hy2
  rcases hb : tabB T with _ | _
  · have HV : Hid (trT T = [] ∧ tE T = 1) := Lib.hid (by unfold trT tE; rw [hb]; exact ⟨rfl, rfl⟩)
    rw [HV.out.1, HV.out.2]
    go_enter Try.func23, Try.ntmps23
    go_wp2_with fail
    refine (specIsTable_any V n c T _ H.out HN.out).mono ?_
    rw [hb]
    rintro e w1 ⟨rfl, b1⟩
    have C1 := Lib.hid b1
    clear b1 hb
    go_wp2
    go_ret2
    exact ⟨none, 0, 0, [], rfl, Rag.nil _ C1.out.size, by omega, by omega, C1.out⟩
  have HE : Hid (tE T = 0) := Lib.hid (by unfold tE; rw [hb]; rfl)
  obtain ⟨⟨n1, n10⟩, ⟨m1, m12⟩, _⟩ := tabB_true hb
  rw [HL.out] at n1 n10
  have HB := Lib.hid hb
  have HV := Lib.hid (trT_is HE.out)
  rw [HV.out, HE.out]
  obtain ⟨m, hm⟩ : ∃ m, colT T = m := ⟨_, rfl⟩
  rw [hm] at m1 m12
  rw [hm]
  have HM := Lib.hid hm
  have hn0 : 0 < n := n1
  obtain ⟨ad, A0, c0, rfl, hab0, _, hc0, _, _, _⟩ := tab_at H.out hb hm hn0
  rw [addr_zero] at hc0
  have HC0 := Lib.hid hc0
  have HAB0 := Lib.hid hab0
  clear hb hm hc0 hab0
  go_enter Try.func23, Try.ntmps23
  go_wp2_with fail
  refine (specIsTable_any (some ad) n c T _ H.out HN.out).mono ?_
  rw [HB.out]
  rintro e w2 ⟨rfl, b1⟩
  have C2 := Lib.hid b1
  have PP := Lib.hid (Pile.none_ (p := n) (rowNil (w := w2) (t := 27) (s := 1) (base := w2.heap.size) (Nat.le_refl _)))
  have F2 := Lib.hid (below_boxT w2 (.cells #[] 27))
  clear b1
  go_wp2
  go_loopw [4, 5] (fun y x wr => ∃ (j : Nat) (Vr : Option Addr) (cr : Nat) (gs : List (Addr × Nat)), j ≤ m ∧ x = .int .i64 j ∧ y = .slice Vr j cr ∧ Hid (Pile wr w2.heap.size (.slice Vr j cr) j n gs ((List.range j).map (trRow T))) ∧ Hid (Below w2.heap.size w2 wr)) (fun _ x _ => m - (intOf x).toNat)
  case atStart => exact ⟨0, _, _, [], Nat.zero_le _, rfl, rfl, PP, F2⟩
  case round =>
    obtain ⟨j, Vr, cr, gs, hj, rfl, rfl, HPL, HF2⟩ := hrel
    clear PP F2
    obtain ⟨W0, rfl⟩ : ∃ W0, W0 = wr := ⟨_, rfl⟩
    have CC := Lib.hid (below_trans' C2.out HF2.out)
    have hc0 := (CC.out.cell HAB0.out).trans HC0.out
    by_cases hlt : j < m
    · have i0 : (0 : Int) ≤ (j : Int) := by omega
      have i1 : (j : Int) < (m : Int) := by omega
      have RI := Lib.hid (rowNil (w := W0) (t := 2) (s := 1) (base := W0.heap.size) (Nat.le_refl _))
      have B0 := Lib.hid (below_boxT W0 (.cells #[] 2))
      have hzw : w2.heap.size ≤ W0.heap.size := HF2.out.size
      go_wp2
      clear hc0
      go_loopw [6, 7] (fun y x wi => ∃ (t : Nat) (pv : Value), t ≤ n ∧ x = .int .i64 t ∧ y = pv ∧ Hid ((trTo T j t).length = t) ∧ Hid (wi.ownsRow W0.heap.size 2 1 pv t (intsV (trTo T j t))) ∧ Hid (Below W0.heap.size W0 wi)) (fun _ x _ => n - (intOf x).toNat)
      case atStart => exact ⟨0, _, Nat.zero_le _, rfl, rfl, Lib.hid rfl, RI, B0⟩
      case round =>
        obtain ⟨t, pv, ht, rfl, rfl, HQ, HR, HBI⟩ := hrel
        clear B0 RI
        obtain ⟨A1, c1, rfl, _, _, _⟩ := rowInts HR.out HQ.out
        have FI := Lib.hid (below_trans' HF2.out HBI.out)
        have CI := Lib.hid (below_trans' C2.out FI.out)
        by_cases hlt2 : t < n
        · obtain ⟨_, A2, c2, e2, hab, _, hc, hi, _, _⟩ := tab_at (H.out.on CI.out) HB.out HM.out hlt2
          injection e2 with e2
          subst e2
          obtain ⟨bd, rfl, hdb, _, hdc⟩ := ints_at hi hlt
          have HNX := Lib.hid (trTo_step (k := j) HL.out hlt2)
          have i6 : (0 : Int) ≤ (t : Int) := by omega
          have i7 : (t : Int) < (n : Int) := by omega
          clear hab hi hdb
          generalize (getR T t).getD j 0 = v at *
          have hszw := HBI.out.size
          have HZV := Lib.hid (rowBase HR.out)
          go_wp2_with (at_builtin; refine wpList_append_lies _ rfl _ _ 27 rfl W0.heap.size 2 ii _ 1 8 Try.underlying27 HF.out.1 HF.out.2.1 HF.out.2.2.1 HF.out.2.2.2 rfl (by omega) _ t _ rfl (rowBelow HR.out ((Below.refl _ _).alloc (Nat.le_refl _) _)) ⟨wr.heap.size, 0, none⟩ 1 1 [(.int .i64 v)] rfl rfl (World.news_of_block (cs := #[(.int .i64 v)]) (t := 2) (fr := (0, 0)) (heap_alloc_new wr _)) (by simp [Value.oneCell']) (by omega) (by unfold maxLen; omega) (by omega) (by simp; omega) (wr.heap.size + 1) (by simp) ?_; intro gg cap w5 hown1 hgrow hat hlt3)
          have R5 : Hid (w5.ownsRow W0.heap.size 2 1 (.slice (some ⟨gg, 0, none⟩) (t + 1) cap) (t + 1) (intsV (trTo T j (t + 1)))) := Lib.hid (by rw [HNX.out, ← intsV_snoc]; exact hown1)
          have Q5 : Hid ((trTo T j (t + 1)).length = t + 1) := Lib.hid (by rw [HNX.out, List.length_append, HQ.out]; rfl)
          have B5 := Lib.hid ((HBI.out.alloc HBI.out.size (.cells #[.int .i64 v] 2)).grown hgrow (by simp; omega) (fun q e => by have := HZV.out q e; omega))
          clear hown1 hgrow hat hlt3
          go_wp2
          go_roundw
          case rel => exact ⟨t + 1, _, by omega, by go_num, rfl, Q5, R5, B5⟩
          case measure => simp [intOf]; omega
        · obtain rfl : t = n := by omega
          have hAE := trTo_all (k := j) HL.out
          obtain ⟨A5, c5, e, OR, hcc1, hcc2⟩ := rowInts HR.out HQ.out
          injection e with e1 e2 e3
          subst e1; subst e3
          rw [hAE] at OR
          obtain ⟨bd, _, rfl, hlo, hhi, _⟩ := OR.at_ hn0
          have HS := Lib.hid (OR.self hn0).1
          have P7 := Lib.hid (HPL.out.on HBI.out)
          have HVA : Hid ((Value.slice Vr j cr).ownBlock ≠ some bd.block) := Lib.hid (fun e => by
            have := Pile.own_ltT HPL.out _ e; omega)
          have HDA : Hid (∀ b ∈ gs, b.1.block ≠ bd.block) := Lib.hid (fun b hb e => by
            have := Pile.each_ltT HPL.out b hb; omega)
          have HLO : Hid (w2.heap.size ≤ bd.block) := Lib.hid (by omega)
          have HFS := Lib.hid FI.out.size
          clear OR hlo hhi
          go_wp2_with (at_builtin; refine wpList_append_lies _ rfl _ _ 24 rfl w2.heap.size 27 jj _ 1 24 Try.underlying24 HG2.out.1 HG2.out.2.1 HG2.out.2.2.1 HG2.out.2.2.2 rfl (by omega) _ j _ rfl (P7.out.row.alloc _) ⟨wr.heap.size, 0, none⟩ 1 1 [.slice (some bd) t c1] rfl rfl (World.news_of_block (cs := #[.slice (some bd) t c1]) (t := 27) (fr := (0, 0)) (heap_alloc_new wr _)) (slice_one _ _ _) (by omega) (by unfold maxLen; omega) (by omega) (by simp; have := HFS.out; omega) (wr.heap.size + 1) (by simp) ?_; intro gg cap w8 hown1 hgrow hat hlt3)
          have P8 : Hid (Pile w8 w2.heap.size (.slice (some ⟨gg, 0, none⟩) (j + 1) cap) (j + 1) t (gs ++ [(bd, c1)]) ((List.range (j + 1)).map (trRow T))) := Lib.hid (by
            rw [range_step]
            exact P7.out.push HS.out HLO.out HVA.out hcc1 hcc2 HDA.out hown1 hgrow hat)
          have F8 := Lib.hid ((FI.out.alloc FI.out.size (.cells #[.slice (some bd) t c1] 27)).grown hgrow (by simp; have := FI.out.size; omega) (fun q e => by have := rowBase P7.out.row q e; omega))
          clear hown1 hgrow hat hlt3
          go_wp2
          go_roundw
          case rel => exact ⟨j + 1, _, _, _, by omega, by go_num, rfl, P8, F8⟩
          case measure => simp [intOf]; omega
    · obtain rfl : j = m := by omega
      have hcaps := HPL.out.capsT
      have hC2 := C2.out.size
      go_wp2
      go_ret2
      exact ⟨_, _, _, _, rfl, (HPL.out.rag (by have := HF2.out.size; omega)).more hC2, hcaps.1, hcaps.2, CC.out⟩

end Go.Proofs.Ytidjnnooeepklaa
