/- The model's choices of keys. -/
import Derived.Test.YtidjnnooeepklaaTabN
import Derived.Test.YtidjnnooeepklaaTabZ
namespace Go.Proofs.Ytidjnnooeepklaa
open Go Go.RowKit

theorem chs_row {L : List Int} : ∀ (k n : Nat), L ∈ chs n k → L.length = k
  | 0, n, h => by
    unfold chs at h
    simp at h; subst h; rfl
  | k + 1, n, h => by
    unfold chs at h
    obtain ⟨f, _, h2⟩ := List.mem_flatMap.1 h
    obtain ⟨r, hr, rfl⟩ := List.mem_map.1 h2
    have := chs_row (L := r) k _ hr
    simp [this]
theorem chs_over {n k : Nat} (h : n < k) : chs n k = [] := by
  obtain ⟨j, rfl⟩ : ∃ j, k = j + 1 := ⟨k - 1, by omega⟩
  unfold chs
  rw [show n - j = 0 by omega]; rfl
theorem chs_len {n k : Nat} (hn : n ≤ 10) : (chs n k).length ≤ 1024 := by
  by_cases h : k < n + 1
  · rw [chs_desc n (by omega) k h, List.length_map]
    refine Nat.le_trans (List.length_filter_le _ _) ?_
    unfold descU
    rw [List.length_reverse, List.length_range]
    exact Nat.le_trans (Nat.pow_le_pow_right (by omega) hn) (by decide)
  · rw [chs_over (by omega)]; simp
theorem chs_in {n k : Nat} (hn : n ≤ 10) {L : List Int} (h : L ∈ chs n k) : ∀ x ∈ L, 0 ≤ x ∧ x < 10 := by
  by_cases hk : k < n + 1
  · obtain ⟨i, hi⟩ := List.getElem?_of_mem h
    obtain ⟨u, rfl, _⟩ := chs_at (by omega) hk hi
    intro x hx
    unfold lisU whereL at hx
    obtain ⟨y, hy, rfl⟩ := List.mem_map.1 hx
    have := List.mem_range.1 (List.mem_filter.1 hy).1
    omega
  · rw [chs_over (by omega)] at h; simp at h
def shL (f : Nat) (r : List Int) : List Int := (f : Int) :: r.map fun x => x + (f : Int) + 1
def shTo (f : Nat) (r : List Int) (j : Nat) : List Int := (f : Int) :: (r.take j).map fun x => x + (f : Int) + 1
theorem shTo_step {f j : Nat} {r : List Int} {v : Int} (hv : r[j]? = some v) : shTo f r (j + 1) = shTo f r j ++ [v + (f : Int) + 1] := by
  unfold shTo
  obtain ⟨hl, e⟩ := List.getElem?_eq_some_iff.1 hv
  rw [List.take_succ_eq_append_getElem hl, List.map_append, e]
  rfl
theorem shTo_len {f j k : Nat} {r : List Int} (hr : r.length = k) (hj : j ≤ k) : (shTo f r j).length = j + 1 := by
  unfold shTo; simp; omega
theorem shTo_all {f k : Nat} {r : List Int} (hr : r.length = k) : shTo f r k = shL f r := by
  unfold shTo shL; rw [List.take_of_length_le (by omega)]
/-- the choices whose first number is below f -/
def chsTo (n k f : Nat) : List (List Int) := (List.range f).flatMap fun g => (chs (n - g - 1) k).map (shL g)
theorem chsTo_step (n k f : Nat) : chsTo n k (f + 1) = chsTo n k f ++ (chs (n - f - 1) k).map (shL f) := by
  unfold chsTo; rw [List.range_succ, List.flatMap_append]; simp
theorem chsTo_all (n k : Nat) : chsTo n k (n - k) = chs n (k + 1) := rfl
theorem chsTo_len {n k : Nat} (hn : n ≤ 10) : ∀ f, (chsTo n k f).length ≤ f * 1024
  | 0 => by simp [chsTo]
  | f + 1 => by
    have ih := chsTo_len (k := k) hn f
    have := chs_len (n := n - f - 1) (k := k) (by omega)
    rw [chsTo_step, List.length_append, List.length_map]
    omega
theorem rowOne {w : World} {base : Nat} {t : TypeId} {v : Value} (hb : base ≤ w.heap.size) : (w.alloc (.cells #[v] t)).ownsRow base t 1 (.slice (some ⟨w.heap.size, 0, none⟩) 1 1) 1 [v] :=
  ⟨by simp, .inr ⟨w.heap.size, 1, #[v], rfl, hb, heap_alloc_new w _, Nat.le_refl _, by unfold maxLen; omega, by simp, by simp⟩⟩
theorem Rag.setsAt {w2 wr : World} {lo n : Nat} {V : Option Addr} {gs : List (Option Addr × Nat × Nat)} {yss : List (List Int)} (h : Rag w2 lo V n gs yss) (hk : ∀ k, lo ≤ k → k < w2.heap.size → wr.heap[k]? = w2.heap[k]?) (hs : w2.heap.size ≤ wr.heap.size) : Sets wr wr.heap.size V n yss :=
  ⟨h.len, fun hn => by
    obtain ⟨ad, e, h1, h2, hc⟩ := h.outer hn
    refine ⟨ad, e, by omega, fun j ys hy => ?_⟩
    have hj : j < n := by rw [← h.len]; exact (List.getElem?_eq_some_iff.1 hy).1
    have hg : gs[j]? = some (gs[j]'(by rw [h.glen]; exact hj)) := List.getElem?_eq_getElem _
    obtain ⟨i1, i2, i3, i4⟩ := h.inner j _ ys hg hy
    refine ⟨_, _, _, (World.cell?_of_block (w := w2) (by rw [block_of_add]; exact hk _ h1 h2)).trans (hc j _ hg), ⟨i1, fun hp => ?_⟩, i2, i3⟩
    obtain ⟨a', e', hs', hlo, _⟩ := i4 hp
    obtain ⟨a2, e2, hb2, hc2⟩ := (Own.ints hs').2 hp
    injection e2 with e2
    subst e2
    have hlt := hs'.lt
    exact ⟨a', e', by omega, fun i v hv => (World.cell?_of_block (w := w2) (by rw [block_of_add]; exact hk _ hlo hlt)).trans (hc2 i v hv)⟩⟩

set_option maxRecDepth 100000 in
set_option maxHeartbeats 4000000 in
theorem l11Choices_any : ∀ (k n : Nat) (w : World), n ≤ 10 → k ≤ 10 →
    Calls Try.prog 99 #[.int .i64 (n : Int), .int .i64 (k : Int)] w (GivesRag w (chs n k)) := by
  intro k
  induction k with
  | zero =>
    intro n w hn _
    have b0 := below_boxT w (.cells #[] 2)
    have b1 := below_trans' b0 (below_boxT (w.alloc (.cells #[] 2)) (.cells #[.slice (some ⟨w.heap.size, 0, none⟩) 0 0] 27))
    have B1 := Lib.hid b1
    have hc := cellT (w.alloc (.cells #[] 2)) #[.slice (some ⟨w.heap.size, 0, none⟩) 0 0] 27 0
    rw [World.size_alloc] at hc
    have HC := Lib.hid hc
    have t1 : (((0 : Nat) : Int) == 0) = true := rfl
    clear b0 b1 hc
    go_enter Try.func99, Try.ntmps99
    go_wp2
    go_ret
    refine ⟨some ⟨w.heap.size + 1, 0, none⟩, 1, 1, [(some ⟨w.heap.size, 0, none⟩, 0, 0)], rfl, ⟨rfl, rfl, B1.out.size, fun _ => ⟨_, rfl, by show w.heap.size ≤ w.heap.size + 1; omega, by simp, fun j a hj => ?_⟩, fun j a ys hj hy => ?_, fun i j a b ad bd hij hi hj => ?_⟩, Nat.le_refl _, by omega, B1.out⟩
    · rcases j with _ | j
      · simp at hj; subst hj; exact HC.out
      · simp at hj
    · rcases j with _ | j
      · simp at hj; subst hj
        have : ys = [] := by simpa [chs] using hy.symm
        subst this
        exact ⟨rfl, Nat.le_refl _, by show 0 ≤ 9223372036854775807; omega, fun h => absurd h (by simp)⟩
      · simp at hj
    · rcases j with _ | j
      · omega
      · simp at hj
  | succ k ih =>
    intro n w hn hk
    have IH := Lib.hid ih
    clear ih
    obtain ⟨kk, hkk⟩ : ∃ kk, kk = k + 1 := ⟨_, rfl⟩
    have HKK := Lib.hid hkk
    have hk1 : (kk : Int) - 1 = (k : Int) := by omega
    have t1 : ((kk : Int) == 0) = false := by simp; omega
    have hkk10 : (kk : Int) ≤ 10 := by omega
    have hkk0 : (0 : Int) ≤ (kk : Int) := by omega
    rw [← hkk]
    clear hkk
    obtain ⟨ii, hi0, hz0, hz1, hz2⟩ := info_parts Try.info2'
    have HF := Lib.hid (And.intro hi0 (And.intro hz0 (And.intro hz1 hz2)))
    clear hi0 hz0 hz1 hz2
    obtain ⟨jj, hj0, hy0, hy1, hy2⟩ := info_parts Try.info27'
    have HG2 := Lib.hid (And.intro hj0 (And.intro hy0 (And.intro hy1 hy2)))
    clear hj0 hy0 hy1 hy2
    have PP := Lib.hid (Pile.none_ (p := k + 1) (rowNil (w := w) (t := 27) (s := 1) (base := w.heap.size) (Nat.le_refl _)))
    have F2 := Lib.hid (below_boxT w (.cells #[] 27))
    go_enter Try.func99, Try.ntmps99
    go_wp2
    go_loopw [5, 6] (fun y x wr => ∃ (f s : Nat) (Vr : Option Addr) (cr : Nat) (gs : List (Addr × Nat)), f ≤ n - k ∧ x = .int .i64 f ∧ y = .slice Vr s cr ∧ Hid (Pile wr w.heap.size (.slice Vr s cr) s (k + 1) gs (chsTo n k f)) ∧ Hid (Below w.heap.size w wr)) (fun _ x _ => n - (intOf x).toNat)
    case atStart => exact ⟨0, 0, _, _, [], Nat.zero_le _, rfl, rfl, PP, F2⟩
    case round =>
      obtain ⟨f, s, Vr, cr, gs, hf, rfl, rfl, HPL, HB⟩ := hrel
      clear PP F2
      by_cases hle : (f : Int) + (kk : Int) ≤ (n : Int)
      · have hfn : f + k + 1 ≤ n := by have := HKK.out; omega
        obtain ⟨nf, hnf⟩ : ∃ nf : Nat, nf = n - f - 1 := ⟨_, rfl⟩
        have HNF := Lib.hid hnf
        have e1 : (n : Int) - (f : Int) - 1 = (nf : Int) := by omega
        have hnf10 : nf ≤ 10 := by omega
        have hff : (0 : Int) ≤ (f : Int) := by omega
        have hf9 : (f : Int) ≤ 10 := by omega
        clear hnf
        obtain ⟨wo, rfl⟩ : ∃ wo, wo = wr := ⟨_, rfl⟩
        go_wp2_with fail
        refine (IH.out nf wo hnf10 (by omega)).mono ?_
        rintro e w2 ⟨V2, n2, c2, gs2, rfl, R2, hc21, hc22, b2⟩
        have HRL : Hid ((chs nf k).length = n2) := Lib.hid R2.len
        have hn2 : n2 ≤ 1024 := by rw [← R2.len]; exact chs_len hnf10
        have HRR := Lib.hid R2
        have P2 := Lib.hid (HPL.out.on b2)
        have B2 := Lib.hid (below_trans' HB.out b2)
        have HOB : Hid (∀ b, (Value.slice Vr s cr).ownBlock = some b → b < wo.heap.size ∨ w2.heap.size ≤ b) := Lib.hid (fun b e => .inl (Pile.own_ltT HPL.out b e))
        have hbo : w.heap.size ≤ wo.heap.size := HB.out.size
        have ho2 : wo.heap.size ≤ w2.heap.size := b2.size
        have HC0 := Lib.hid (chsTo_len (n := n) (k := k) hn f)
        have HT0 : Hid (chsTo n k f = chsTo n k f ++ ((chs nf k).take 0).map (shL f)) := Lib.hid (by simp)
        rw [HT0.out] at P2
        clear b2 R2 HPL HB HT0
        go_wp2
        go_loopw [5, 8] (fun y x wr => ∃ (i s : Nat) (Vr : Option Addr) (cr : Nat) (gs : List (Addr × Nat)), i ≤ n2 ∧ x = .int .i64 i ∧ y = .slice Vr s cr ∧ Hid (Pile wr w.heap.size (.slice Vr s cr) s (k + 1) gs (chsTo n k f ++ ((chs nf k).take i).map (shL f))) ∧ Hid (∀ b, (Value.slice Vr s cr).ownBlock = some b → b < wo.heap.size ∨ w2.heap.size ≤ b) ∧ Hid (∀ x, wo.heap.size ≤ x → x < w2.heap.size → wr.heap[x]? = w2.heap[x]?) ∧ Hid (Below w.heap.size w wr) ∧ w2.heap.size ≤ wr.heap.size) (fun _ x _ => n2 - (intOf x).toNat)
        case atStart => exact ⟨0, s, Vr, cr, gs, Nat.zero_le _, rfl, rfl, P2, HOB, Lib.hid (fun _ _ _ => rfl), B2, Nat.le_refl _⟩
        case round =>
          obtain ⟨i, s, Vr, cr, gs, hi, rfl, rfl, HPL, HO, HK, HB, hsz⟩ := hrel
          clear P2 HOB B2
          obtain ⟨wm, rfl⟩ : ∃ wm, wm = wr := ⟨_, rfl⟩
          have SM := Lib.hid (HRR.out.setsAt HK.out hsz)
          by_cases hlt : i < n2
          · obtain ⟨ad, r, A2, q2, c3, rfl, hab, hy, hc, hir, _, _⟩ := SM.out.at_ hlt
            have hrm := List.mem_of_getElem? hy
            have hrl := chs_row _ _ hrm
            obtain rfl : q2 = k := by rw [← hir.len, hrl]
            have HIN := Lib.hid (chs_in hnf10 hrm)
            have HRI := Lib.hid hir
            have HY := Lib.hid hy
            have HCC := Lib.hid hc
            have HAB := Lib.hid hab
            have HLR := Lib.hid hrl
            have i0 : (0 : Int) ≤ (i : Int) := by omega
            have i1 : (i : Int) < (n2 : Int) := by omega
            have RI : Hid ((wm.alloc (.cells #[.int .i64 (f : Int)] 2)).ownsRow wm.heap.size 2 1 (.slice (some ⟨wm.heap.size, 0, none⟩) 1 1) 1 (intsV (shTo f r 0))) := Lib.hid (rowOne (Nat.le_refl _))
            have B0 := Lib.hid (below_boxT wm (.cells #[.int .i64 (f : Int)] 2))
            clear hy hrm hrl hir hab
            go_wp2
            clear hc
            go_loopw [9, 10] (fun y x wi => ∃ (j : Nat) (pv : Value), j ≤ q2 ∧ x = .int .i64 j ∧ y = pv ∧ Hid (wi.ownsRow wm.heap.size 2 1 pv (j + 1) (intsV (shTo f r j))) ∧ Hid (Below wm.heap.size wm wi)) (fun _ x _ => q2 - (intOf x).toNat)
            case atStart => exact ⟨0, _, Nat.zero_le _, rfl, rfl, RI, B0⟩
            case round =>
              obtain ⟨j, pv, hj, rfl, rfl, HR, HBI⟩ := hrel
              clear RI B0
              have HQ := Lib.hid (shTo_len (f := f) HLR.out hj)
              obtain ⟨A1, c1, rfl, _, _, _⟩ := rowInts HR.out HQ.out
              have hc := (HBI.out.cell (p := ad.add i) (by rw [block_of_add]; exact HAB.out)).trans HCC.out
              by_cases hjk : j < q2
              · obtain ⟨bd, v, rfl, hdb, hv, hdc⟩ := (HRI.out.on HBI.out).at_ hjk
                have hv2 := HIN.out v (List.mem_of_getElem? hv)
                have HNX := Lib.hid (shTo_step (f := f) hv)
                have j0 : (0 : Int) ≤ (j : Int) := by omega
                have j1 : (j : Int) < (q2 : Int) := by omega
                have v0 := hv2.1
                have v1 : v < 10 := hv2.2
                clear hv hv2 hdb
                have hszw := HBI.out.size
                have HZV := Lib.hid (rowBase HR.out)
                go_wp2_with (at_builtin; refine wpList_append_lies _ rfl _ _ 27 rfl wm.heap.size 2 ii _ 1 8 Try.underlying27 HF.out.1 HF.out.2.1 HF.out.2.2.1 HF.out.2.2.2 rfl (by omega) _ (j + 1) _ rfl (rowBelow HR.out ((Below.refl _ _).alloc (Nat.le_refl _) _)) ⟨wr.heap.size, 0, none⟩ 1 1 [(.int .i64 (v + (f : Int) + 1))] rfl rfl (World.news_of_block (cs := #[(.int .i64 (v + (f : Int) + 1))]) (t := 2) (fr := (0, 0)) (heap_alloc_new wr _)) (by simp [Value.oneCell']) (by omega) (by unfold maxLen; omega) (by omega) (by simp; omega) (wr.heap.size + 1) (by simp) ?_; intro gg cap w5 hown1 hgrow hat hlt3)
                have R5 : Hid (w5.ownsRow wm.heap.size 2 1 (.slice (some ⟨gg, 0, none⟩) ((j + 1) + 1) cap) ((j + 1) + 1) (intsV (shTo f r (j + 1)))) := Lib.hid (by rw [HNX.out, ← intsV_snoc]; exact hown1)
                have Q5 : Hid ((shTo f r (j + 1)).length = (j + 1) + 1) := Lib.hid (by rw [HNX.out, List.length_append, HQ.out]; rfl)
                have B5 := Lib.hid ((HBI.out.alloc HBI.out.size (.cells #[.int .i64 (v + (f : Int) + 1)] 2)).grown hgrow (by simp; omega) (fun q e => by have := HZV.out q e; omega))
                clear hown1 hgrow hat hlt3
                go_wp2
                go_roundw
                case rel => exact ⟨j + 1, _, by omega, by go_num, rfl, R5, B5⟩
                case measure => simp [intOf]; omega
              · obtain rfl : j = q2 := by omega
                have hAE := shTo_all (f := f) HLR.out
                obtain ⟨A5, c5, e, OR, hcc1, hcc2⟩ := rowInts HR.out HQ.out
                injection e with e1 e2 e3
                subst e1; subst e3
                rw [hAE] at OR
                obtain ⟨bd, _, rfl, hlo, hhi, _⟩ := OR.at_ (k := 0) (by omega)
                have HS := Lib.hid (OR.self (by omega)).1
                have P7 := Lib.hid (HPL.out.on HBI.out)
                have HVA : Hid ((Value.slice Vr s cr).ownBlock ≠ some bd.block) := Lib.hid (fun e => by
                  have := Pile.own_ltT HPL.out _ e; omega)
                have HDA : Hid (∀ b ∈ gs, b.1.block ≠ bd.block) := Lib.hid (fun b hb e => by
                  have := Pile.each_ltT HPL.out b hb; omega)
                have hwm : w.heap.size ≤ wm.heap.size := HB.out.size
                have HLO : Hid (w.heap.size ≤ bd.block) := Lib.hid (by omega)
                have FI := Lib.hid (below_trans' HB.out HBI.out)
                have HFS := Lib.hid FI.out.size
                have hsl : s ≤ 11264 := by
                  have h1 := HPL.out.len
                  rw [List.length_append, List.length_map, List.length_take] at h1
                  have := HC0.out
                  omega
                clear OR hlo hhi
                go_wp2_with (at_builtin; refine wpList_append_lies _ rfl _ _ 24 rfl w.heap.size 27 jj _ 1 24 Try.underlying24 HG2.out.1 HG2.out.2.1 HG2.out.2.2.1 HG2.out.2.2.2 rfl (by omega) _ s _ rfl (P7.out.row.alloc _) ⟨wr.heap.size, 0, none⟩ 1 1 [.slice (some bd) (j + 1) c1] rfl rfl (World.news_of_block (cs := #[.slice (some bd) (j + 1) c1]) (t := 27) (fr := (0, 0)) (heap_alloc_new wr _)) (slice_one _ _ _) (by omega) (by unfold maxLen; omega) (by omega) (by simp; have := HFS.out; omega) (wr.heap.size + 1) (by simp) ?_; intro gg cap w8 hown1 hgrow hat hlt3)
                have P8 : Hid (Pile w8 w.heap.size (.slice (some ⟨gg, 0, none⟩) (s + 1) cap) (s + 1) (j + 1) (gs ++ [(bd, c1)]) (chsTo n j f ++ ((chs nf j).take (i + 1)).map (shL f))) := Lib.hid (by
                  obtain ⟨hl, e⟩ := List.getElem?_eq_some_iff.1 HY.out
                  rw [List.take_succ_eq_append_getElem hl, List.map_append, e, ← List.append_assoc]
                  exact P7.out.push HS.out HLO.out HVA.out hcc1 hcc2 HDA.out hown1 hgrow hat)
                have O8 : Hid (∀ b, (Value.slice (some ⟨gg, 0, none⟩) (s + 1) cap).ownBlock = some b → b < wo.heap.size ∨ w2.heap.size ≤ b) := Lib.hid (fun b e => by
                  have e' : gg = b := by simpa [Value.ownBlock] using e
                  subst e'
                  rcases hat with h1 | h1
                  · exact HO.out _ h1
                  · right; have := HBI.out.size; omega)
                have K8 : Hid (∀ x, wo.heap.size ≤ x → x < w2.heap.size → w8.heap[x]? = w2.heap[x]?) := Lib.hid (fun x h1 h2 => by
                  have hx1 : x < wm.heap.size := by omega
                  have hx2 : x < wr.heap.size := by have := HBI.out.size; omega
                  exact (hgrow.block x (by simp; omega) (fun e => by have := HO.out x e.symm; omega)).trans ((Below.heap_alloc wr _ x hx2).trans ((HBI.out.block x hx1).trans (HK.out x h1 h2))))
                have F8 := Lib.hid ((FI.out.alloc FI.out.size (.cells #[.slice (some bd) (j + 1) c1] 27)).grown hgrow (by simp; have := FI.out.size; omega) (fun q e => by have := rowBase P7.out.row q e; omega))
                have z8 : w2.heap.size ≤ w8.heap.size := by
                  have h1 := hgrow.size
                  have h2 := HBI.out.size
                  simp at h1; omega
                clear hown1 hgrow hat hlt3 hc
                go_wp2
                go_roundw
                case rel => exact ⟨i + 1, _, _, _, _, by omega, by go_num, rfl, P8, O8, K8, F8, z8⟩
                case measure => simp [intOf]; omega
          · obtain rfl : i = n2 := by omega
            have P9 : Hid (Pile wm w.heap.size (.slice Vr s cr) s (k + 1) gs (chsTo n k (f + 1))) := Lib.hid (by
              have := HPL.out
              rw [List.take_of_length_le (by rw [HRL.out]; exact Nat.le_refl _)] at this
              rw [chsTo_step, ← HNF.out]
              exact this)
            go_wp2
            go_roundw
            case rel => exact ⟨f + 1, s, Vr, cr, gs, by omega, by go_num, rfl, P9, HB⟩
            case measure => simp [intOf]; omega
      · have hfe : f = n - k := by have := HKK.out; omega
        have hcaps := HPL.out.capsT
        have HCE : Hid (chsTo n k f = chs n kk) := Lib.hid (by rw [hfe, HKK.out]; rfl)
        go_wp2
        go_ret
        have HRG := HPL.out.rag (by exact HB.out.size)
        rw [HCE.out] at HRG
        exact ⟨_, _, _, _, rfl, HRG, hcaps.1, hcaps.2, HB.out⟩

end Go.Proofs.Ytidjnnooeepklaa
