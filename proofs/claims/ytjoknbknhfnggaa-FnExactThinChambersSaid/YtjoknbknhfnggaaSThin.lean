/- ThinChambers of the model. -/
import Derived.Test.YtjoknbknhfnggaaThinP
import Derived.Test.YtjoknbknhfnggaaBuilt
namespace Go.Proofs.Ytjoknbknhfnggaa
open Go Go.RowKit

def thinTo (least : Int) (ys : List Int) (k : Nat) : Bool := (List.range k).any (fun p => decide (0 < p) && decide (ys.getD p 0 - ys.getD (p - 1) 0 < least))
theorem thinTo_one (least : Int) (ys : List Int) : thinTo least ys 1 = false := by
  have e : List.range 1 = [0] := rfl
  unfold thinTo
  rw [e]; simp
theorem thinTo_step (least : Int) (ys : List Int) {k : Nat} (hk : 1 ≤ k) : thinTo least ys (k + 1) = (thinTo least ys k || decide (ys.getD k 0 - ys.getD (k - 1) 0 < least)) := by
  unfold thinTo
  rw [List.range_succ, List.any_append]
  have : decide (0 < k) = true := decide_eq_true (by omega)
  simp [this]
theorem thinTo_all {least : Int} {ys : List Int} {q : Nat} (h : ys.length = q) : thinS least ys = thinTo least ys q := by subst h; rfl

set_option maxRecDepth 100000 in
set_option maxHeartbeats 8000000 in
theorem specThinChambers_any (m : Mk) (V : Option Addr) (n c : Nat) (yss : List (List Int)) (least : Int) (w : World) (h : Sets w w.heap.size V n yss) (hn : n + sizeL yss ≤ 1048576) :
    Calls Try.prog 39 #[.agg #[.int .i64 m.C, .int .i64 m.D, .int .i64 m.S, .int .i64 m.M, .int .i64 m.L], .agg #[.slice V n c], .int .i64 least] w (GivesList w (cfE m yss least) (tcL m yss least)) := by
  have c0 := ((Below.refl w.heap.size w).alloc (Nat.le_refl _) (.cells #[.int .i64 m.C, .int .i64 m.D, .int .i64 m.S, .int .i64 m.M, .int .i64 m.L] 25)).alloc (by simp) (.cells #[.slice V n c] 30)
  have hx := (Boxed.new w 25 m).alloc (.cells #[.slice V n c] 30)
  have k0 := Cell1.new (w.alloc (.cells #[.int .i64 m.C, .int .i64 m.D, .int .i64 m.S, .int .i64 m.M, .int .i64 m.L] 25)) 30 (.slice V n c)
  simp only [World.size_alloc] at k0
  have hs := h.on c0
  have HN := Lib.hid hn
  have HLN := Lib.hid h.len
  have HS := Lib.hid h
  clear h hn
  obtain ⟨q0, q1, q2, q3, q4⟩ := hx.cells
  have ck := k0.cell
  obtain ⟨z, hz⟩ : ∃ z, cfE m yss least = z := ⟨_, rfl⟩
  by_cases hz0 : z = 0
  rotate_left
  · have HE : Hid (tcL m yss least = []) := Lib.hid (by unfold tcL; rw [hz, if_neg hz0])
    rw [hz, HE.out]
    have HZ := Lib.hid hz
    have htest : (z != 0) = true := by simpa using hz0
    clear hz hz0
    go_enter Try.func39, Try.ntmps39
    go_wp2_with fail
    refine (l05Code_any m _ _ _ yss least _ hs HN.out).mono ?_
    rw [HZ.out]
    rintro e w1 ⟨rfl, b1⟩
    have c1 := below_trans' c0 b1
    clear q0 q1 q2 q3 q4 ck
    go_wp2
    go_ret2
    exact ⟨none, 0, 0, rfl, Own.nil _ (Nat.le_refl _), by omega, by omega, by omega, c1⟩
  subst hz0
  have HZ := Lib.hid hz
  obtain ⟨hL, hq⟩ := cf_zero hz
  have HE : Hid (tcL m yss least = tcI least yss n) := Lib.hid (by unfold tcL; rw [hz, if_pos rfl, HLN.out])
  rw [hz, HE.out]
  obtain ⟨hm, hCn, hfs⟩ := lockB_facts hL
  obtain ⟨m1, m2, m3, m4, m5, m6, m7, m8, m9, m10, m11⟩ := Mk.ok_true hm
  have hn6 : n ≤ 6 := by have := HLN.out; omega
  have H7 : Hid (∀ (k : Nat) (ys : List Int), yss[k]? = some ys → ys.length ≠ 0 ∧ allIn 0 7 ys = true) := Lib.hid (fun k ys hy => ⟨(hfs k ys hy).1, rise_seven (hfs k ys hy).2 m4⟩)
  obtain ⟨ii, hi0, hz0, hz1, hz2⟩ := info_parts Try.info2'
  have HF := Lib.hid (And.intro hi0 (And.intro hz0 (And.intro hz1 hz2)))
  clear hi0 hz0 hz1 hz2 hz hL hm hCn hfs hq
  go_enter Try.func39, Try.ntmps39
  go_wp2_with fail
  refine (l05Code_any m _ _ _ yss least _ hs HN.out).mono ?_
  rw [HZ.out]
  rintro e w1 ⟨rfl, b1⟩
  have c1 := below_trans' c0 b1
  have bA := below_alloc2 w1 (.cells #[] 2)
  have K0 := Lib.hid ((k0.on b1).on bA)
  have C0 := Lib.hid (below_trans' c1 bA)
  have ho1 := (k0.on b1).lt
  have R0 := Lib.hid (rowNil (w := w1) (t := 2) (s := 1) (base := w.heap.size + 2) (by omega))
  clear q0 q1 q2 q3 q4 ck hx k0 hs b1 c0 c1 bA
  go_wp2
  go_loopw [9, 10] (fun y x wr => ∃ (k q : Nat) (pv : Value), k ≤ n ∧ x = .int .i64 k ∧ y = pv ∧ q ≤ k ∧ Hid ((tcI least yss k).length = q) ∧ Hid (wr.ownsRow (w.heap.size + 2) 2 1 pv q (intsV (tcI least yss k))) ∧ Hid (Cell1 wr (w.heap.size + 1) 30 (.slice V n c)) ∧ Hid (Below w.heap.size w wr)) (fun _ x _ => n - (intOf x).toNat)
  case atStart => exact ⟨0, 0, _, Nat.zero_le _, rfl, rfl, Nat.le_refl _, Lib.hid rfl, R0, K0, C0⟩
  case round =>
    obtain ⟨k, q, pv, hk, rfl, rfl, hq, HQ, HR, HK, HB⟩ := hrel
    clear R0 K0 C0
    obtain ⟨A1, c1, rfl, _, _, _⟩ := rowInts HR.out HQ.out
    obtain ⟨wo, rfl⟩ : ∃ wo, wo = wr := ⟨_, rfl⟩
    have ck := HK.out.cell
    have hoz := HK.out.lt
    by_cases hlt : (k : Int) < (n : Int)
    · have hltn : k < n := by omega
      obtain ⟨ad, ys, A, l, cc, rfl, hab, hy, hc, hi1, hqc, hqm⟩ := (HS.out.on HB.out).at_ hltn
      obtain ⟨hne, h7⟩ := H7.out k ys hy
      have hl0 : 0 < l := by have := hi1.len; omega
      have hl1 : l ≤ 1048576 := by have := fits_at HN.out hy; have := hi1.len; omega
      obtain ⟨ad2, y0, rfl, hab2, _, _⟩ := hi1.at_ hl0
      have HY := Lib.hid hy
      have HI := Lib.hid hi1
      have H8 := Lib.hid h7
      have HC0 := Lib.hid hc
      have T1 := Lib.hid (thinTo_one least ys)
      have k1 : (0 : Int) ≤ (k : Int) := by omega
      have D0 := Lib.hid (Below.refl wo.heap.size wo)
      clear hy hi1 h7 hne
      go_wp2
      clear ck hc
      go_loopw [11, 12] (fun v x wr => ∃ (p : Nat) (b : Bool), x = .int .i64 p ∧ v = .bool b ∧ 1 ≤ p ∧ p ≤ l ∧ Hid (thinTo least ys p = b) ∧ Hid (Below wo.heap.size wo wr)) (fun _ x _ => l + 1 - (intOf x).toNat)
      case atStart => exact ⟨1, false, rfl, rfl, Nat.le_refl _, by omega, T1, D0⟩
      case round =>
        obtain ⟨p, b, rfl, rfl, hp1, hpl, HT, hb⟩ := hrel
        clear D0
        have ck := (HK.out.on hb.out).cell
        have hc : wr.cell? (ad.add k) = some (.slice (some ad2) l cc) := (hb.out.cell (p := ad.add k) (by rw [block_of_add]; exact hab)).trans HC0.out
        by_cases hltp : (p : Int) < (l : Int)
        · have HST := Lib.hid (thinTo_step least ys hp1)
          cases b with
          | true =>
            have HT2 : Hid (thinTo least ys (p + 1) = true) := Lib.hid (by rw [HST.out, HT.out]; rfl)
            go_wp2
            go_quiet (fail)
            have B5 := Lib.hid (below_drewN hb.out nq)
            clear hc ck
            go_wp2
            go_roundw
            case rel => exact ⟨p + 1, true, by go_num, rfl, by omega, by omega, HT2, B5⟩
            case measure => simp [intOf]; omega
          | false =>
            obtain ⟨ad3, v, e3, _, hv, hcv⟩ := (HI.out.below hb.out).at_ (show p < l by omega)
            injection e3 with e3
            subst e3
            obtain ⟨ad4, u, e4, _, hu, hcu⟩ := (HI.out.below hb.out).at_ (show p - 1 < l by omega)
            injection e4 with e4
            subst e4
            obtain ⟨v0, v7⟩ := allIn_at H8.out hv
            obtain ⟨u0, u7⟩ := allIn_at H8.out hu
            have hgd : ys.getD p 0 - ys.getD (p - 1) 0 = v - u := by rw [List.getD_eq_getElem?_getD, List.getD_eq_getElem?_getD, hv, hu]; rfl
            have HGD := Lib.hid hgd
            have w1' : IntKind.i64.wrap ((p : Int) - 1) = (p : Int) - 1 := IntWalk.i64_in _ (by omega)
            have w2' : 0 ≤ (p : Int) - 1 := by omega
            have w3' : ((p : Int) - 1).toNat = p - 1 := by omega
            have w4' : (p : Int) - 1 < (l : Int) := by omega
            have w5' : (0 : Int) ≤ (p : Int) := by omega
            have sw : IntKind.i64.wrap (v - u) = v - u := IntWalk.i64_in _ (by omega)
            clear hv hu hgd
            obtain ⟨b, hd⟩ : ∃ b, decide (v - u < least) = b := ⟨_, rfl⟩
            have HT2 : Hid (thinTo least ys (p + 1) = b) := Lib.hid (by rw [HST.out, HT.out, HGD.out, hd]; rfl)
            cases b with
            | true =>
              go_wp2
              go_quiet (fail)
              have B5 := Lib.hid (below_drewN hb.out nq)
              clear hc ck hcv hcu w1' w2' w3' w4' sw hd
              go_wp2
              go_roundw
              case rel => exact ⟨p + 1, true, by go_num, rfl, by omega, by omega, HT2, B5⟩
              case measure => simp [intOf]; omega
            | false =>
              go_wp2
              go_quiet (fail)
              have B5 := Lib.hid (below_drewN hb.out nq)
              clear hc ck hcv hcu w1' w2' w3' w4' sw hd
              go_wp2
              go_roundw
              case rel => exact ⟨p + 1, false, by go_num, rfl, by omega, by omega, HT2, B5⟩
              case measure => simp [intOf]; omega
        · have hpe : p = l := by omega
          have HTA : Hid (thinS least ys = b) := Lib.hid (by rw [thinTo_all HI.out.len, ← hpe]; exact HT.out)
          have R2 := Lib.hid (rowBelow HR.out (hb.out.mono (by omega)))
          have K2 := Lib.hid (HK.out.on hb.out)
          have B2 := Lib.hid (below_trans' HB.out hb.out)
          have hsz := hb.out.size
          have hszw := HB.out.size
          clear HR HK HB hpe hoz
          cases b with
          | false =>
            have HE1 := Lib.hid (tcI_no HY.out HTA.out)
            go_wp2
            go_roundw
            case rel => exact ⟨k + 1, q, _, by omega, by go_num, rfl, by omega, Lib.hid (by rw [HE1.out]; exact HQ.out), Lib.hid (by rw [HE1.out]; exact R2.out), K2, B2⟩
            case measure => simp [intOf]; omega
          | true =>
            have HE1 := Lib.hid (tcI_yes HY.out HTA.out)
            have hzv := rowBase R2.out
            have hlw := K2.out.lt
            have HZV := Lib.hid hzv
            clear hzv
            go_wp2_with (at_builtin; refine wpList_append_lies _ rfl _ _ 39 rfl (w.heap.size + 2) 2 ii _ 1 8 Try.underlying39 HF.out.1 HF.out.2.1 HF.out.2.2.1 HF.out.2.2.2 rfl (by omega) _ q _ rfl (R2.out.alloc _) ⟨wr.heap.size, 0, none⟩ 1 1 [.int .i64 (k : Int)] rfl rfl (World.news_of_block (cs := #[.int .i64 (k : Int)]) (t := 2) (fr := (0, 0)) (heap_alloc_new wr _)) (by simp [Value.oneCell']) (by omega) (by unfold maxLen; omega) (by omega) (by simp; omega) (wr.heap.size + 1) (by simp) ?_; intro gg cap w5 hown1 hgrow hat hlt3)
            have R5 : Hid (w5.ownsRow (w.heap.size + 2) 2 1 (.slice (some ⟨gg, 0, none⟩) (q + 1) cap) (q + 1) (intsV (tcI least yss (k + 1)))) := Lib.hid (by rw [HE1.out, ← intsV_snoc]; exact hown1)
            have Q5 : Hid ((tcI least yss (k + 1)).length = q + 1) := Lib.hid (by rw [HE1.out, List.length_append, HQ.out]; rfl)
            have K5 := Lib.hid ((K2.out.alloc (.cells #[.int .i64 (k : Int)] 2)).grown hgrow (fun e => by have := HZV.out _ e.symm; omega))
            have B5 := Lib.hid ((B2.out.alloc (by omega) (.cells #[.int .i64 (k : Int)] 2)).grown hgrow (by simp; omega) (fun q e => by have := HZV.out q e; omega))
            clear hown1 hgrow hat hlt3 ck hc
            go_wp2
            go_roundw
            case rel => exact ⟨k + 1, q + 1, _, by omega, by go_num, rfl, by omega, Q5, R5, K5, B5⟩
            case measure => simp [intOf]; omega
    · obtain rfl : k = n := by omega
      obtain ⟨A2, c2, e, ho, h1, h2⟩ := rowInts HR.out HQ.out
      injection e with e1 e2 e3
      subst e1; subst e3
      have HO := Lib.hid (ho.more (show w.heap.size ≤ w.heap.size + 2 by omega) (Nat.le_refl _) (Nat.le_refl _))
      have q1 : q ≤ 1048576 := by omega
      clear ho
      go_wp2
      go_ret2
      exact ⟨_, q, _, rfl, HO.out, q1, h1, h2, HB.out⟩

end Go.Proofs.Ytjoknbknhfnggaa
