/- ThinChambers of the program. -/
import Derived.Test.YtjoknbknhfnggaaStacksP
import Derived.Test.YtjoknbknhfnggaaThick
import Derived.WalkMore
import Derived.Deep.LoopGhost
namespace Go.Proofs.Ytjoknbknhfnggaa
open Go Go.RowKit

/-- is a wafer of a set thin -/
def thinS (least : Int) (ys : List Int) : Bool := (List.range ys.length).any (fun p => decide (0 < p) && decide (ys.getD p 0 - ys.getD (p - 1) 0 < least))
def tcI (least : Int) (yss : List (List Int)) (k : Nat) : List Int := ((List.range k).filter (fun i => thinS least (yss.getD i []))).map (fun (i : Nat) => (i : Int))
theorem tcI_len (least : Int) (yss : List (List Int)) (k : Nat) : (tcI least yss k).length ≤ k := by
  unfold tcI
  rw [List.length_map]
  exact Nat.le_trans (List.length_filter_le _ _) (by simp)
theorem tcI_yes {least : Int} {yss : List (List Int)} {k : Nat} {ys : List Int} (hy : yss[k]? = some ys) (h : thinS least ys = true) : tcI least yss (k + 1) = tcI least yss k ++ [(k : Int)] := by
  unfold tcI
  rw [List.range_succ, List.filter_append, List.map_append]
  have : yss[k]?.getD [] = ys := by rw [hy]; rfl
  simp [this, h]
theorem tcI_no {least : Int} {yss : List (List Int)} {k : Nat} {ys : List Int} (hy : yss[k]? = some ys) (h : thinS least ys = false) : tcI least yss (k + 1) = tcI least yss k := by
  unfold tcI
  rw [List.range_succ, List.filter_append, List.map_append]
  have : yss[k]?.getD [] = ys := by rw [hy]; rfl
  simp [this, h]
def tcL (m : Mk) (yss : List (List Int)) (least : Int) : List Int := if cfE m yss least = 0 then tcI least yss yss.length else []
theorem thin_yes {least : Int} {ys : List Int} {p : Nat} (h1 : 1 ≤ p) (h2 : p < ys.length) (h : ys.getD p 0 - ys.getD (p - 1) 0 < least) : thinS least ys = true := by
  unfold thinS
  rw [List.any_eq_true]
  exact ⟨p, List.mem_range.2 h2, by rw [decide_eq_true (by omega : 0 < p), decide_eq_true h]; rfl⟩
theorem thin_no {least : Int} {ys : List Int} {k : Nat} (hk : ys.length ≤ k) (h : ∀ p, 1 ≤ p → p < k → ¬ ys.getD p 0 - ys.getD (p - 1) 0 < least) : thinS least ys = false := by
  unfold thinS
  rw [List.any_eq_false]
  intro p hp
  have hp' := List.mem_range.1 hp
  by_cases h0 : 0 < p
  · rw [decide_eq_false (h p (by omega) (by omega)), Bool.and_false]; simp
  · simp [h0]
theorem stkF_at (D : Int) : ∀ (below : Int) (ys : List Int) (p : Nat), p < ys.length → (stkF D below ys)[p]? = some (ys.getD p 0 - (if p = 0 then below else ys.getD (p - 1) 0))
  | _, [], p, h => by simp at h
  | below, y :: r, 0, _ => by simp [stkF]
  | below, y :: r, p + 1, h => by
    have hr : p < r.length := by simpa using h
    unfold stkF
    rw [List.getElem?_cons_succ, stkF_at D y r p hr]
    rcases p with _ | p
    · simp
    · simp
theorem stk_at {D : Int} {ys : List Int} {p : Nat} (h1 : 1 ≤ p) (h : p < ys.length) : (stk D ys)[p]? = some (ys.getD p 0 - ys.getD (p - 1) 0) := by
  unfold stk
  rw [stkF_at D 0 ys p h, if_neg (by omega)]

set_option maxRecDepth 100000 in
set_option maxHeartbeats 8000000 in
theorem thinChambers_any (m : Mk) (V : Option Addr) (n c : Nat) (yss : List (List Int)) (least : Int) (w : World) (h : Sets w w.heap.size V n yss) (hn : n + sizeL yss ≤ 1048576) :
    Calls Try.prog 38 #[.agg #[.int .i64 m.C, .int .i64 m.D, .int .i64 m.S, .int .i64 m.M, .int .i64 m.L], .agg #[.slice V n c], .int .i64 least] w (GivesList w (cfE m yss least) (tcL m yss least)) := by
  have c0 := ((Below.refl w.heap.size w).alloc (Nat.le_refl _) (.cells #[.int .i64 m.C, .int .i64 m.D, .int .i64 m.S, .int .i64 m.M, .int .i64 m.L] 25)).alloc (by simp) (.cells #[.slice V n c] 30)
  have hx := (Boxed.new w 25 m).alloc (.cells #[.slice V n c] 30)
  have k0 := Cell1.new (w.alloc (.cells #[.int .i64 m.C, .int .i64 m.D, .int .i64 m.S, .int .i64 m.M, .int .i64 m.L] 25)) 30 (.slice V n c)
  simp only [World.size_alloc] at k0
  have hs := h.on c0
  have HN := Lib.hid hn
  have HLN := Lib.hid h.len
  have HS := Lib.hid h
  clear h hn
  obtain ⟨q0, q1, q2, q3, q4⟩ := hx.cells
  have ck := k0.cell
  obtain ⟨z, hz⟩ : ∃ z, cfE m yss least = z := ⟨_, rfl⟩
  by_cases hz0 : z = 0
  rotate_left
  · have HE : Hid (tcL m yss least = []) := Lib.hid (by unfold tcL; rw [hz, if_neg hz0])
    rw [hz, HE.out]
    have HZ := Lib.hid hz
    have htest : (z != 0) = true := by simpa using hz0
    clear hz hz0
    go_enter Try.func38, Try.ntmps38
    go_wp2_with fail
    refine (codeForLeast_any m _ _ _ yss least _ hs HN.out).mono ?_
    rw [HZ.out]
    rintro e w1 ⟨rfl, b1⟩
    have c1 := below_trans' c0 b1
    clear q0 q1 q2 q3 q4 ck
    go_wp2
    go_ret2
    exact ⟨none, 0, 0, rfl, Own.nil _ (Nat.le_refl _), by omega, by omega, by omega, c1⟩
  subst hz0
  have HZ := Lib.hid hz
  obtain ⟨hL, hq⟩ := cf_zero hz
  have HE : Hid (tcL m yss least = tcI least yss n) := Lib.hid (by unfold tcL; rw [hz, if_pos rfl, HLN.out])
  rw [hz, HE.out]
  obtain ⟨hm, hCn, hfs⟩ := lockB_facts hL
  obtain ⟨m1, m2, m3, m4, m5, m6, m7, m8, m9, m10, m11⟩ := Mk.ok_true hm
  have hn6 : n ≤ 6 := by have := HLN.out; omega
  have H7 : Hid (∀ ys ∈ yss, allIn 0 7 ys = true ∧ ys.length ≤ 8) := Lib.hid (fun ys hy => by
    obtain ⟨k, hk⟩ := List.getElem?_of_mem hy
    have hr := (hfs k ys hk).2
    exact ⟨rise_seven hr m4, by
      have e := congrArg List.length (rise_set (by omega) hr)
      unfold setOf at e
      rw [List.length_map] at e
      have := List.length_filter_le (fun d : Nat => ys.any (fun v => decide (v = (d : Int)))) (List.range m.D.toNat)
      rw [List.length_range] at this
      omega⟩)
  have HP : Hid (∀ (k : Nat) (ys : List Int), yss[k]? = some ys → 0 < ys.length) := Lib.hid (fun k ys hy => by have := (hfs k ys hy).1; omega)
  obtain ⟨l1, l2⟩ := inB_true.1 hq
  obtain ⟨i0, hi, hz0, hz1, hz2⟩ := info_parts Try.info2'
  have HI := Lib.hid (And.intro hi (And.intro hz0 (And.intro hz1 hz2)))
  clear hi hz0 hz1 hz2 hz hL hm hCn hfs hq
  go_enter Try.func38, Try.ntmps38
  go_wp2_with fail
  refine (codeForLeast_any m _ _ _ yss least _ hs HN.out).mono ?_
  rw [HZ.out]
  rintro e w1 ⟨rfl, b1⟩
  have c1 := below_trans' c0 b1
  have x1 := (hx.on b1).alloc (.cells #[] 2)
  have k1 := (k0.on b1).alloc (.cells #[] 2)
  have c2 := c1.alloc c1.size (.cells #[] 2)
  have R0 := rowNil (w := w1) (base := w1.heap.size) (t := 2) (s := 1) (Nat.le_refl _)
  have hz1 := c1.size
  clear q0 q1 q2 q3 q4 ck c0 c1 hx k0 hs b1
  obtain ⟨q0, q1, q2, q3, q4⟩ := x1.cells
  have ck := k1.cell
  have s2 := HS.out.on c2
  go_wp2_with fail
  clear q0 q1 q2 q3 q4 ck
  refine (stacks_any m V n c yss _ s2 hn6 m3 m4 H7.out).mono ?_
  rintro e w3 ⟨g0, gs, pv, qq, rfl, hg0, hst, b3⟩
  have HST := Lib.hid hst
  have R3 := Lib.hid (rowBelow R0 b3)
  have B3 := Lib.hid (below_trans' c2 b3)
  have z3 := b3.size
  have hz3 : w1.heap.size + 1 ≤ w3.heap.size := by simp at z3; omega
  have hg1 : w1.heap.size + 1 ≤ g0 := by simp at hg0; omega
  clear hst b3 R0 c2 x1 k1 s2 z3 hg0
  have T0 : Hid (∀ t, (Value.slice (some ⟨w1.heap.size, 0, none⟩) 0 0).ownBlock = some t → t < g0 ∨ w3.heap.size ≤ t) := Lib.hid (fun t ht => by
    have e : w1.heap.size = t := by simpa [Value.ownBlock] using ht
    exact .inl (by omega))
  go_wp2
  go_loopg [9, 26] n (fun gh v i wr => ∃ (k q : Nat) (pv' : Value), k + gh = n ∧ i = .int .i64 k ∧ v = pv' ∧ q ≤ k ∧ Hid ((tcI least yss k).length = q) ∧ Hid (wr.ownsRow w1.heap.size 2 1 pv' q (intsV (tcI least yss k))) ∧ Hid (∀ t, pv'.ownBlock = some t → t < g0 ∨ w3.heap.size ≤ t) ∧ Hid (∀ b o : Nat, g0 ≤ b → b < w3.heap.size → wr.cell? ⟨b, o, none⟩ = w3.cell? ⟨b, o, none⟩) ∧ Hid (Below w.heap.size w wr) ∧ w3.heap.size ≤ wr.heap.size)
  case atStart => exact ⟨0, 0, _, Nat.zero_add _, rfl, rfl, Nat.le_refl _, Lib.hid rfl, R3, T0, Lib.hid (fun _ _ _ _ => rfl), B3, Nat.le_refl _⟩
  case round =>
    clear R3 B3 T0
    obtain ⟨k, q, pv', hk, rfl, rfl, hq, HQ, HR, HT, HKP, HB, hsz⟩ := hrel
    obtain ⟨A1, c1, rfl, _, _, _⟩ := rowInts HR.out HQ.out
    have hkn : k ≤ n := by omega
    by_cases hlt : k < n
    · obtain ⟨ys, hy⟩ : ∃ ys, yss[k]? = some ys := ⟨_, List.getElem?_eq_getElem (by rw [HLN.out]; exact hlt)⟩
      have hzs : (yss.map (stk m.D))[k]? = some (stk m.D ys) := by rw [List.getElem?_map, hy]; rfl
      obtain ⟨gp, hgp⟩ : ∃ gp, gs[k]? = some gp := ⟨_, List.getElem?_eq_getElem (by rw [HST.out.len]; exact hlt)⟩
      obtain ⟨b, o⟩ := gp
      obtain ⟨e1, e2, _, e4⟩ := HST.out.each k b o _ hgp hzs
      have hrow := HST.out.row.cell hlt
      have hgl := HST.out.row.lt
      unfold stV at hrow
      rw [hgp, hzs] at hrow
      have hcw := (HKP.out g0 k (Nat.le_refl _) hgl).trans hrow
      have HL1 := Lib.hid (stk_len m.D ys)
      have hlp := HP.out k ys hy
      have hl8 := (H7.out ys (List.mem_of_getElem? hy)).2
      have HY := Lib.hid hy
      obtain ⟨l, hl⟩ : ∃ l, ys.length = l := ⟨_, rfl⟩
      have HL := Lib.hid hl
      have hsl : (stk m.D ys).length = l + 1 := by rw [stk_len, hl]
      dsimp only at hcw
      rw [hsl] at hcw
      rw [hl] at hlp hl8
      have HZ4 : Hid (∀ p, 1 ≤ p → p < l → wr.cell? ⟨b, o + p, none⟩ = some (.int .i64 (ys.getD p 0 - ys.getD (p - 1) 0))) := Lib.hid (fun p h1 h2 => (HKP.out b (o + p) (by omega) e2).trans (e4 p _ (stk_at h1 (by rw [HL.out]; exact h2))))
      have sd : IntKind.i64.wrap ((l : Int) + 1 - 1) = (l : Int) := by rw [IntKind.wrap_i64]; omega
      have sd2 : ((l : Int) + 1 - 1) = (l : Int) := by omega
      clear hy hzs hgp hrow e4 hsl hl
      go_wp2
      go_step3
      go_wp2
      go_step3
      go_wp2
      go_loopg [9, 13] (l - 1) (fun gh v x wx => ∃ p : Nat, x = .int .i64 p ∧ v = .slice A1 q c1 ∧ 1 ≤ p ∧ p + gh = l ∧ wx = wr ∧ Hid (∀ r, 1 ≤ r → r < p → ¬ ys.getD r 0 - ys.getD (r - 1) 0 < least))
      case atStart => exact ⟨1, rfl, rfl, Nat.le_refl _, by omega, rfl, Lib.hid (fun r h1 h2 => absurd h1 (by omega))⟩
      case round =>
        obtain ⟨p, rfl, rfl, hp1, hpl, rfl, hno⟩ := hrel
        by_cases hpe : p = l
        · have hpt : ((p : Int) == (l : Int)) = true := by simp [hpe]
          have HE1 := Lib.hid (tcI_no HY.out (thin_no (least := least) (k := p) (by rw [HL.out]; omega) hno.out))
          go_wp2
          go_roundg (n - (k + 1))
          case rel => exact ⟨k + 1, q, _, by omega, by go_num, rfl, by omega, by rw [HE1.out]; exact HQ, by rw [HE1.out]; exact HR, HT, HKP, HB, hsz⟩
          case measure => omega
        · have hpt : ((p : Int) == (l : Int)) = false := by simp; omega
          have hcp := HZ4.out p hp1 (by omega)
          obtain ⟨x, hx⟩ : ∃ x, ys.getD p 0 - ys.getD (p - 1) 0 = x := ⟨_, rfl⟩
          have HXE := Lib.hid hx
          rw [hx] at hcp
          clear hx
          have j0 : (0 : Int) ≤ (p : Int) := by omega
          have j1 : (p : Int) < (l : Int) + 1 := by omega
          by_cases hth : x < least
          · have HE1 := Lib.hid (tcI_yes HY.out (thin_yes (least := least) (p := p) hp1 (by rw [HL.out]; omega) (by rw [HXE.out]; exact hth)))
            go_wp2_with (at_builtin; refine wpList_append_kept _ rfl _ _ 39 rfl w1.heap.size 2 i0 _ 1 8 Try.underlying39 HI.out.1 HI.out.2.1 HI.out.2.2.1 HI.out.2.2.2 rfl (by omega) _ q _ rfl (HR.out.alloc _) ⟨wr.heap.size, 0, none⟩ 1 1 [.int .i64 (k : Int)] rfl rfl (World.news_of_block (cs := #[.int .i64 (k : Int)]) (t := 2) (fr := (0, 0)) (heap_alloc_new wr _)) (by simp [Value.oneCell']) (by omega) (by unfold maxLen; omega) (by omega) (by simp; omega) (wr.heap.size + 1) (by simp) ?_; intro gg cap w5 hown1 hgrow hat hlt3 hkp)
            go_roundg (n - (k + 1))
            case rel =>
              refine ⟨k + 1, q + 1, _, by omega, by go_num, rfl, by omega, Lib.hid (by rw [HE1.out, List.length_append, HQ.out]; rfl), Lib.hid (by rw [HE1.out, ← intsV_snoc]; exact hown1), Lib.hid (fun t ht => ?_), Lib.hid (fun b' o' h1 h2 => ?_), Lib.hid ?_, ?_⟩
              · have e : gg = t := by simpa [Value.ownBlock] using ht
                subst e
                rcases hat with h | h
                · exact HT.out _ h
                · exact .inr (by omega)
              · have hb2 : b' < (wr.alloc (.cells #[.int .i64 (k : Int)] 2)).heap.size := by simp; omega
                have h5 := World.cell?_of_block (w := wr.alloc (.cells #[.int .i64 (k : Int)] 2)) (a := ⟨b', o', none⟩) (hgrow.block b' hb2 (fun e => by have := HT.out b' e.symm; omega))
                exact (h5.trans (World.cell?_of_block (w := wr) (a := ⟨b', o', none⟩) (Below.heap_alloc wr _ b' (by omega)))).trans (HKP.out b' o' h1 h2)
              · exact (HB.out.alloc HB.out.size _).grown hgrow (by have := HB.out.size; simp; omega) (fun q e => by have := rowBase HR.out q e; omega)
              · have := hgrow.size; simp at this; omega
            case measure => omega
          · go_wp2
            go_roundg (l - (p + 1))
            case rel => exact ⟨p + 1, by go_num, rfl, by omega, by omega, rfl, Lib.hid (fun r h1 h2 => by
              rcases Nat.lt_or_ge r p with h3 | h3
              · exact hno.out r h1 h3
              · obtain rfl : r = p := by omega
                rw [HXE.out]; exact hth)⟩
            case measure => omega
    · obtain rfl : k = n := by omega
      obtain ⟨A2, c2, e, ho, h1, h2⟩ := rowInts HR.out HQ.out
      injection e with e1 e2 e3
      subst e1; subst e3
      have HO := Lib.hid (ho.more (show w.heap.size ≤ w1.heap.size from hz1) (Nat.le_refl _) (Nat.le_refl _))
      have q1 : q ≤ 1048576 := by omega
      clear ho
      go_wp2
      go_ret2
      exact ⟨_, q, _, rfl, HO.out, q1, h1, h2, HB.out⟩

end Go.Proofs.Ytjoknbknhfnggaa
