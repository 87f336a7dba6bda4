/- ReverseKey, of the program and of the model. -/
import Derived.Test.YtbadahnhlehidaaMirror
import Derived.RegionTactic
import Derived.BigRegion
namespace Go.Proofs.Ytbadahnhlehidaa
open Go.RowKit

/-- the list after i exchanges -/
def rvAt (xs : List Int) (n i : Nat) : List Int := (List.range n).map (fun k => if k < i ∨ n ≤ k + i then xs.getD (n - 1 - k) 0 else xs.getD k 0)
theorem rvAt_len (xs : List Int) (n i : Nat) : (rvAt xs n i).length = n := by simp [rvAt]
theorem rvAt_at (xs : List Int) (n i : Nat) {k : Nat} (hk : k < n) : (rvAt xs n i)[k]? = some (if k < i ∨ n ≤ k + i then xs.getD (n - 1 - k) 0 else xs.getD k 0) := by
  unfold rvAt
  rw [List.getElem?_map, List.getElem?_range hk]; rfl
theorem rvAt_zero {xs : List Int} {n : Nat} (h : xs.length = n) : rvAt xs n 0 = xs := by
  refine List.ext_getElem? (fun k => ?_)
  rcases Nat.lt_or_ge k n with hk | hk
  · rw [rvAt_at xs n 0 hk, if_neg (by omega), List.getD_eq_getElem?_getD, List.getElem?_eq_getElem (by omega)]; rfl
  · rw [List.getElem?_eq_none (by rw [rvAt_len]; exact hk), List.getElem?_eq_none (by omega)]
theorem rvAt_end {xs : List Int} {n i : Nat} (h : xs.length = n) (hi : n ≤ 2 * i + 1) : rvAt xs n i = xs.reverse := by
  refine List.ext_getElem? (fun k => ?_)
  rcases Nat.lt_or_ge k n with hk | hk
  · rw [rvAt_at xs n i hk, List.getElem?_reverse (by omega), h]
    by_cases h1 : k < i ∨ n ≤ k + i
    · rw [if_pos h1, List.getD_eq_getElem?_getD, List.getElem?_eq_getElem (by omega)]; rfl
    · rw [if_neg h1, List.getD_eq_getElem?_getD, show n - 1 - k = k by omega, List.getElem?_eq_getElem (by omega)]; rfl
  · rw [List.getElem?_eq_none (by rw [rvAt_len]; exact hk), List.getElem?_eq_none (by rw [List.length_reverse]; omega)]
theorem rvAt_step {xs : List Int} {n i q : Nat} (hq : i + q + 1 = n) (hi : i < q) : ((rvAt xs n i).set i (xs.getD q 0)).set q (xs.getD i 0) = rvAt xs n (i + 1) := by
  refine List.ext_getElem? (fun k => ?_)
  rcases Nat.lt_or_ge k n with hk | hk
  · rw [rvAt_at xs n (i + 1) hk]
    by_cases h1 : k = q
    · subst h1
      rw [List.getElem?_set_self (by rw [List.length_set, rvAt_len]; exact hk), if_pos (by omega), show n - 1 - k = i by omega]
    · rw [List.getElem?_set_ne (by omega)]
      by_cases h2 : k = i
      · subst h2
        rw [List.getElem?_set_self (by rw [rvAt_len]; exact hk), if_pos (by omega), show n - 1 - k = q by omega]
      · rw [List.getElem?_set_ne (by omega), rvAt_at xs n i hk]
        by_cases h3 : k < i ∨ n ≤ k + i
        · rw [if_pos h3, if_pos (by omega)]
        · rw [if_neg h3, if_neg (by omega)]
  · rw [List.getElem?_eq_none (by rw [List.length_set, List.length_set, rvAt_len]; exact hk), List.getElem?_eq_none (by rw [rvAt_len]; exact hk)]

set_option maxRecDepth 100000 in
set_option maxHeartbeats 4000000 in
theorem reverse_any (lo hi n c : Nat) (ad : Addr) (xs : List Int) (w : World) (h : Own w lo hi (some ad) n xs) (hn : n ≤ 1048576) :
    Calls Try.prog 127 #[.slice (some ad) n c] w fun e w' => (∃ v, e = .returned v) ∧ Own w' lo hi (some ad) n xs.reverse ∧ w.grownBy w' (some ad.block) := by
  have HL := Lib.hid h.len
  have HO := Lib.hid (show Own w lo hi (some ad) n (rvAt xs n 0) by rw [rvAt_zero HL.out]; exact h)
  clear h
  go_enter Try.func127, Try.ntmps127
  go_wp2
  go_loopw [2, 3] (fun x y wr => ∃ (i : Nat) (z : Int), x = .int .i64 i ∧ y = .int .i64 z ∧ z = n - 1 - i ∧ i ≤ n ∧ Own wr lo hi (some ad) n (rvAt xs n i) ∧ w.grownBy wr (some ad.block)) (fun x _ _ => n + 1 - (intOf x).toNat)
  case atStart => exact ⟨0, _, rfl, rfl, by omega, by omega, HO.out, World.grownBy.refl _ _⟩
  case round =>
    obtain ⟨i, z, rfl, rfl, hz, hin0, hown, hgr⟩ := hrel
    by_cases hlt : (i : Int) < z
    · obtain ⟨q, rfl⟩ := Int.eq_ofNat_of_zero_le (show 0 ≤ z by omega)
      have hin : i < n := by omega
      have hqn : q < n := by omega
      have hiq : i + q + 1 = n := by omega
      obtain ⟨_, v, e0, _, _, hv, hf, hc⟩ := hown.at_ hin
      obtain rfl := (by injection e0 : ad = _)
      obtain ⟨_, v', e1, _, _, hv', hf', hc'⟩ := hown.at_ hqn
      obtain rfl := (by injection e1 : ad = _)
      clear e0 e1
      rw [rvAt_at xs n i hin, if_neg (by omega)] at hv
      rw [rvAt_at xs n i hqn, if_neg (by omega)] at hv'
      obtain rfl : xs.getD i 0 = v := by injection hv
      obtain rfl : xs.getD q 0 = v' := by injection hv'
      have H1 := Lib.hid (hown.put (xs.getD q 0) hin)
      have H2 := Lib.hid (H1.out.put (xs.getD i 0) hqn)
      have HS := Lib.hid (rvAt_step (xs := xs) hiq (by omega : i < q))
      have HG := Lib.hid (grown_set (grown_set hgr (block_of_add ad i) (.int .i64 (xs.getD q 0))) (block_of_add ad q) (.int .i64 (xs.getD i 0)))
      have hne := add_ne ad (show i ≠ q by omega)
      have i0 : (0 : Int) ≤ (i : Int) := by omega
      have i1 : (i : Int) < (n : Int) := by omega
      have i2 : (0 : Int) ≤ (q : Int) := by omega
      have i3 : (q : Int) < (n : Int) := by omega
      generalize xs.getD i 0 = a at *
      generalize xs.getD q 0 = b at *
      have HZ := Lib.hid hz
      clear hv hv' hown hgr HO hz
      go_wp2
      go_region
      go_wp2
      go_roundw
      case rel => exact ⟨i + 1, _, by go_num, rfl, by have := HZ.out; omega, by omega, by rw [← HS.out]; exact H2.out.dn 1, grown_dn HG.out 1⟩
      case measure => simp [intOf]; omega
    · have HE := Lib.hid (rvAt_end HL.out (i := i) (by omega))
      go_wp2
      go_end0
      exact ⟨⟨_, rfl⟩, by rw [← HE.out]; exact hown, hgr⟩

def rkvL (m : Mk) (xs : List Int) : List Int := if ktE m xs = 0 then xs.reverse else []
theorem rkv_yes {m : Mk} {xs : List Int} (h : ktE m xs = 0) : rkvL m xs = xs.reverse := by unfold rkvL; rw [if_pos h]
theorem rkv_no {m : Mk} {xs : List Int} (h : ktE m xs ≠ 0) : rkvL m xs = [] := by unfold rkvL; rw [if_neg h]

set_option maxRecDepth 100000 in
set_option maxHeartbeats 2000000 in
theorem reverseKey_any (m : Mk) (A : Option Addr) (n c : Nat) (xs : List Int) (w : World) (h : Ints w w.heap.size A n xs) (hn : n ≤ 1048576) :
    Calls Try.prog 77 #[.agg #[.int .i64 m.C, .int .i64 m.D, .int .i64 m.S, .int .i64 m.M, .int .i64 m.L], .slice A n c] w
      (GivesList w (ktE m xs) (rkvL m xs)) := by
  have b0 := (Below.refl w.heap.size w).alloc (Nat.le_refl _) (.cells #[.int .i64 m.C, .int .i64 m.D, .int .i64 m.S, .int .i64 m.M, .int .i64 m.L] 29)
  have c0 := b0.alloc (by simp) (.cells #[.slice A n c] 42)
  have hl := Lists.one (c := c) 42 (h.on b0) hn
  rw [World.size_alloc] at hl
  by_cases hz : ktE m xs = 0
  · obtain ⟨hm, hk⟩ := kt_key hz
    obtain ⟨m1, m2, m3, m4, m5, m6, m7, m8, m9, m10, m11⟩ := Mk.ok_true hm
    obtain ⟨_, hlen, hdep, _⟩ := key_facts hk
    have hp : 0 < n := by have := h.len; omega
    rw [rkv_yes hz, hz]
    have HZ := Lib.hid (show codeF m [xs] = 0 by rw [code_one]; exact hz)
    obtain ⟨ad, _, rfl, _, _, _⟩ := h.at_ hp
    clear hz hm hk hdep hlen
    go_enter Try.func77, Try.ntmps77
    go_wp2_with fail
    refine (codeFor_any m _ 1 _ [xs] _ hl (by omega)).mono ?_
    rw [HZ.out]
    rintro e w1 ⟨rfl, b1⟩
    have c1 := below_trans' c0 b1
    clear hl b0 c0 b1
    go_wp2_with fail
    refine (clone_any ad n c xs _ (h.on c1) hn hp).mono ?_
    rintro e w2 ⟨A2, c2, rfl, o2, hc2, hcm2, b2⟩
    obtain ⟨ad2, _, rfl, hlo2, _, _, _, _⟩ := o2.at_ hp
    have d2 := below_trans' c1 b2
    have s1 := c1.size
    go_wp2_with fail
    refine (reverse_any _ _ n c2 ad2 xs _ o2 hn).mono ?_
    rintro e w3 ⟨⟨v, rfl⟩, o3, g3⟩
    have O3 := Lib.hid (o3.more s1 g3.size (Nat.le_refl _))
    have B3 := Lib.hid (d2.grown g3 d2.size (fun q e => by injection e with e; omega))
    go_wp2
    go_ret2
    exact ⟨_, n, c2, rfl, O3.out, hn, hc2, hcm2, B3.out⟩
  · rw [rkv_no hz]
    obtain ⟨v, hv⟩ : ∃ v, ktE m xs = v := ⟨_, rfl⟩
    rw [hv] at hz ⊢
    have HV := Lib.hid (show codeF m [xs] = v by rw [code_one]; exact hv)
    have hq : (v != 0) = true := by simpa using hz
    clear hz hv
    go_enter Try.func77, Try.ntmps77
    go_wp2_with fail
    refine (codeFor_any m _ 1 _ [xs] _ hl (by omega)).mono ?_
    rw [HV.out]
    rintro e w1 ⟨rfl, b1⟩
    have c1 := below_trans' c0 b1
    clear hl b0 c0 b1
    go_wp2
    go_ret2
    exact ⟨none, 0, 0, rfl, Own.nil _ (Nat.le_refl _), by omega, by omega, by omega, c1⟩

theorem rev_snoc {xs : List Int} {n k q : Nat} {v : Int} (hl : xs.length = n) (hq : q + k + 1 = n) (hv : xs[q]? = some v) : xs.reverse.take k ++ [v] = xs.reverse.take (k + 1) := by
  have hk : k < xs.reverse.length := by rw [List.length_reverse]; omega
  rw [List.take_succ_eq_append_getElem hk]
  have : xs.reverse[k]? = some v := by rw [List.getElem?_reverse (by omega), hl, show n - 1 - k = q by omega, hv]
  rw [List.getElem?_eq_getElem hk] at this
  injection this with this
  rw [this]

set_option maxRecDepth 100000 in
set_option maxHeartbeats 4000000 in
theorem specReverseKey_any (m : Mk) (A : Option Addr) (n c : Nat) (xs : List Int) (w : World) (h : Ints w w.heap.size A n xs) (hn : n ≤ 1048576) (hc : n ≤ c) (hcm : c ≤ 9223372036854775807) :
    Calls Try.prog 78 #[.agg #[.int .i64 m.C, .int .i64 m.D, .int .i64 m.S, .int .i64 m.M, .int .i64 m.L], .slice A n c] w
      (GivesList w (ktE m xs) (rkvL m xs)) := by
  have b0 := (Below.refl w.heap.size w).alloc (Nat.le_refl _) (.cells #[.int .i64 m.C, .int .i64 m.D, .int .i64 m.S, .int .i64 m.M, .int .i64 m.L] 29)
  by_cases hz : ktE m xs = 0
  · obtain ⟨hm, hk⟩ := kt_key hz
    have HL := Lib.hid h.len
    rw [rkv_yes hz, hz]
    have HZ := Lib.hid hz
    obtain ⟨i0, hi, hz0, hz1, hz2⟩ := info_parts Try.info2'
    have HF := Lib.hid (And.intro hi (And.intro hz0 (And.intro hz1 hz2)))
    clear hz hm hk hi hz0 hz1 hz2
    go_enter Try.func78, Try.ntmps78
    go_wp2_with fail
    refine (l02Code_any m A n c xs _ (h.on b0) hn hc hcm).mono ?_
    rw [HZ.out]
    rintro e w1 ⟨rfl, b1⟩
    have c1 := below_trans' b0 b1
    have s1 := c1.size
    clear b0 b1
    go_wp2
    go_loopw [7, 8] (fun z i wr => ∃ (k : Nat) (y : Int), k ≤ n ∧ i = .int .i64 y ∧ y = n - 1 - k ∧ wr.ownsRow w.heap.size 2 1 z k (intsV (xs.reverse.take k)) ∧ Below w.heap.size w wr) (fun _ i _ => (intOf i + 1).toNat)
    case atStart => exact ⟨0, _, Nat.zero_le _, rfl, by omega, rowNil s1, c1.alloc s1 _⟩
    case round =>
      obtain ⟨k, y, hk, rfl, hy, hown, hb⟩ := hrel
      have hsz := hb.size
      by_cases hlt : k < n
      · obtain ⟨q, rfl⟩ := Int.eq_ofNat_of_zero_le (show 0 ≤ y by omega)
        have hqk : q + k + 1 = n := by omega
        have hqn : q < n := by omega
        obtain ⟨ad, v, rfl, hab, hv, hc1⟩ := (h.below hb).at_ hqn
        have HV := Lib.hid (rev_snoc HL.out hqk hv)
        have HO := Lib.hid hown
        have HB := Lib.hid hb
        have HY := Lib.hid hy
        have j0 : (0 : Int) ≤ (q : Int) := by omega
        have j1 : (q : Int) < (n : Int) := by omega
        clear hv hown hb hy c1
        have e1 := World.new_ne wr (ad.add q) hc1
        go_wp2_with (at_builtin; refine wpList_append_lies _ rfl _ _ 42 rfl w.heap.size 2 i0 _ 1 8 Try.underlying42 HF.out.1 HF.out.2.1 HF.out.2.2.1 HF.out.2.2.2 rfl (by omega) _ k _ rfl (HO.out.alloc _) ⟨wr.heap.size, 0, none⟩ 1 1 [.int .i64 v] rfl rfl (World.news_of_block (cs := #[.int .i64 v]) (t := 2) (fr := (0, 0)) (heap_alloc_new wr _)) (by simp [Value.oneCell']) (by omega) (by unfold maxLen; omega) (by omega) (by simp; omega) (wr.heap.size + 1) (by simp) ?_; intro gg cap w5 hown1 hgrow hat hlt3)
        rw [intsV_snoc] at hown1
        have R5 := Lib.hid hown1
        have B5 := Lib.hid ((HB.out.alloc hsz (.cells #[.int .i64 v] 2)).grown hgrow (by simp; omega) (fun q e => by have := rowBase HO.out q e; omega))
        clear hown1 hgrow hat hlt3 HO HB hc1 e1
        go_wp2
        go_roundw
        case rel => exact ⟨k + 1, _, by omega, rfl, by have := HY.out; omega, by rw [← HV.out]; exact R5.out, B5.out⟩
        case measure => simp [intOf] <;> omega
      · have hneg : y < 0 := by omega
        rw [List.take_of_length_le (by rw [List.length_reverse, HL.out]; omega)] at hown
        obtain rfl : k = n := by omega
        obtain ⟨A2, c2, rfl, ho, hc2, hcm2⟩ := rowInts hown (by rw [List.length_reverse, HL.out])
        have HO := Lib.hid ho
        clear hown ho hy
        go_wp2
        go_ret2
        exact ⟨A2, k, c2, rfl, HO.out, hn, hc2, hcm2, hb⟩
  · rw [rkv_no hz]
    obtain ⟨v, hv⟩ : ∃ v, ktE m xs = v := ⟨_, rfl⟩
    rw [hv] at hz ⊢
    have HV := Lib.hid hv
    have hq : (v != 0) = true := by simpa using hz
    clear hz hv
    go_enter Try.func78, Try.ntmps78
    go_wp2_with fail
    refine (l02Code_any m A n c xs _ (h.on b0) hn hc hcm).mono ?_
    rw [HV.out]
    rintro e w1 ⟨rfl, b1⟩
    have c1 := below_trans' b0 b1
    go_wp2
    go_ret2
    exact ⟨none, 0, 0, rfl, Own.nil _ (Nat.le_refl _), by omega, by omega, by omega, c1⟩

end Go.Proofs.Ytbadahnhlehidaa
