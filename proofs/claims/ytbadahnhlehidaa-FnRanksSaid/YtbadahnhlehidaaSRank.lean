/- l03Rank and RankOf of the model. KeyAt of the model. -/
import Derived.Test.YtbadahnhlehidaaRank
import Derived.Test.YtbadahnhlehidaaPile
namespace Go.Proofs.Ytbadahnhlehidaa
open Go Go.RowKit

theorem sumN_front (f : Nat → Int) : ∀ k, sumN (k + 1) f = f 0 + sumN k (fun t => f (t + 1))
  | 0 => by simp [sumN]
  | k + 1 => by
    show sumN (k + 1) f + f (k + 1) = f 0 + (sumN k (fun t => f (t + 1)) + f (k + 1))
    rw [sumN_front f k]; omega
theorem sumN_mono {f : Nat → Int} (h : ∀ i, 0 ≤ f i) : ∀ {a b : Nat}, a ≤ b → sumN a f ≤ sumN b f
  | a, 0, hab => by
    obtain rfl : a = 0 := by omega
    exact Int.le_refl _
  | a, b + 1, hab => by
    rcases Nat.lt_or_ge a (b + 1) with h1 | h1
    · have := sumN_mono h (show a ≤ b by omega)
      have := h b
      show _ ≤ sumN b f + f b
      omega
    · obtain rfl : a = b + 1 := by omega
      exact Int.le_refl _
theorem sumN_pos {f : Nat → Int} (h : ∀ i, 0 ≤ f i) (a : Nat) : 0 ≤ sumN a f := sumN_mono h (Nat.zero_le a)
/-- how many keys begin with the first i cuts of xs and then a depth below d -/
def rowSum (m : Mk) (xs : List Int) (i d : Nat) : Int := sumN d (fun e => ((keysFrom m (xs.length - 1 - i) (xs.take i ++ [(e : Int)])).length : Int))
def rowAll (m : Mk) (xs : List Int) (i : Nat) : Int := rowSum m xs i (xs.getD i 0).toNat
theorem rowAll_pos (m : Mk) (xs : List Int) (i : Nat) : 0 ≤ rowAll m xs i := sumN_pos (fun _ => by omega) _
theorem tails_front {m : Mk} {k : Nat} {xs : List Int} : ∀ d, d ≤ m.D.toNat → ∃ F, tails m k xs 0 = F ++ tails m k xs d ∧ (F.length : Int) = sumN d (fun e => ((keysFrom m k (xs ++ [(e : Int)])).length : Int))
  | 0, _ => ⟨[], rfl, rfl⟩
  | d + 1, h => by
    obtain ⟨F, e1, e2⟩ := tails_front (m := m) (k := k) (xs := xs) d (by omega)
    refine ⟨F ++ keysFrom m k (xs ++ [(d : Int)]), ?_, ?_⟩
    · rw [e1, tails_step (by omega), List.append_assoc]
    · rw [List.length_append, Int.natCast_add, e2]; rfl
theorem rank_split {m : Mk} {xs : List Int} (hb : beginsB m xs = true) (hk : m.L ≤ (kinds xs : Int)) (hd : allIn 0 (m.D - 1) xs = true) (hD : 0 ≤ m.D) :
    ∀ (k p : Nat), p + k = xs.length → ∃ F R, keysFrom m k (xs.take p) = F ++ xs :: R ∧ (F.length : Int) = sumN k (fun t => rowAll m xs (p + t))
  | 0, p, h => by
    have e : xs.take p = xs := List.take_of_length_le (by omega)
    exact ⟨[], [], by rw [e, keys_zero_yes hb hk]; rfl, rfl⟩
  | k + 1, p, h => by
    obtain ⟨F, R, e, e'⟩ := rank_split hb hk hd hD k (p + 1) (by omega)
    have hp : p < xs.length := by omega
    have hv : xs[p]? = some xs[p] := List.getElem?_eq_getElem hp
    obtain ⟨v0, v1⟩ := allIn_at hd hv
    have hg := getD_at hv
    have h0 : beginsB m (xs.take p) = true := beginsB_left (ys := xs.drop p) (by rw [List.take_append_drop]; exact hb)
    obtain ⟨F2, e2, e3⟩ := tails_front (m := m) (k := k) (xs := xs.take p) (xs.getD p 0).toNat (by rw [hg]; omega)
    refine ⟨F2 ++ F, R ++ tails m k (xs.take p) ((xs.getD p 0).toNat + 1), ?_, ?_⟩
    · rw [keys_succ h0, e2, tails_step (by rw [hg]; omega), ← take_cut hp (by rw [hg]; exact v0), e]
      simp only [List.append_assoc, List.cons_append]
    · rw [List.length_append, Int.natCast_add, e3, e', sumN_front]
      have e5 : rowAll m xs (p + 0) = sumN (xs.getD p 0).toNat (fun e => ((keysFrom m k (xs.take p ++ [(e : Int)])).length : Int)) := by
        unfold rowAll rowSum
        rw [show p + 0 = p from rfl, show xs.length - 1 - p = k by omega]
      have e6 : sumN k (fun t => rowAll m xs (p + 1 + t)) = sumN k (fun t => rowAll m xs (p + (t + 1))) := sumN_congr (fun t _ => by rw [show p + 1 + t = p + (t + 1) by omega])
      rw [e5, e6]
theorem rank_is {m : Mk} {xs : List Int} (h : isKeyB m xs = true) : (rankN m xs : Int) = sumN xs.length (rowAll m xs) ∧ rankN m xs < 262144 := by
  obtain ⟨hm, hl, hd, hs, hr, hk⟩ := key_facts h
  obtain ⟨m1, m2, m3, m4, _⟩ := Mk.ok_true hm
  obtain ⟨F, R, e1, e2⟩ := rank_split (m := m) (xs := xs) (by unfold beginsB; rw [hs, hr]; rfl) hk hd (by omega) xs.length 0 (by omega)
  have e3 : allKeys m = F ++ xs :: R := by unfold allKeys; rw [show m.C.toNat = xs.length by omega]; exact e1
  have hn := keys_nodup m m.C.toNat []
  have hn2 : (F ++ xs :: R).Pairwise (· ≠ ·) := by rw [← e3]; exact hn
  have hx : xs ∉ F := by
    intro hx
    have := (List.pairwise_append.1 hn2).2.2 xs hx xs (by simp)
    exact this rfl
  have e4 : rankN m xs = F.length := by unfold rankN; rw [e3]; exact idx_at hx
  constructor
  · rw [e4, e2]
    exact sumN_congr (fun t _ => by rw [Nat.zero_add])
  · have h1 := Nat.le_trans (keys_count m4 m.C.toNat []) (pow8 (by omega))
    have h2 := congrArg List.length e3
    unfold allKeys at h2
    rw [List.length_append, List.length_cons] at h2
    omega
/-- what has been added up is no more than the rank -/
theorem rank_part {m : Mk} {xs : List Int} (h : isKeyB m xs = true) {i d : Nat} (hi : i < xs.length) (hd : d ≤ (xs.getD i 0).toNat) :
    0 ≤ sumN i (rowAll m xs) + rowSum m xs i d ∧ sumN i (rowAll m xs) + rowSum m xs i d ≤ 262144 := by
  obtain ⟨e1, e2⟩ := rank_is h
  have h1 := sumN_pos (rowAll_pos m xs) i
  have h2 : 0 ≤ rowSum m xs i d := sumN_pos (fun _ => by omega) d
  have h3 : rowSum m xs i d ≤ rowAll m xs i := sumN_mono (fun _ => by omega) hd
  have h4 : sumN (i + 1) (rowAll m xs) ≤ sumN xs.length (rowAll m xs) := sumN_mono (rowAll_pos m xs) hi
  have h5 : sumN (i + 1) (rowAll m xs) = sumN i (rowAll m xs) + rowAll m xs i := rfl
  omega

set_option maxRecDepth 100000 in
set_option maxHeartbeats 8000000 in
theorem l03Rank_any (m : Mk) (A : Option Addr) (n c : Nat) (xs : List Int) (w : World) (h : Ints w w.heap.size A n xs) (hc : n ≤ c) (hkey : isKeyB m xs = true) :
    Calls Try.prog 111 #[.agg #[.int .i64 m.C, .int .i64 m.D, .int .i64 m.S, .int .i64 m.M, .int .i64 m.L], .slice A n c] w fun e w' => e = .returned (.int .i64 (rankN m xs : Int)) ∧ Below w.heap.size w w' := by
  obtain ⟨hm, hlen, hdep, _⟩ := key_facts hkey
  obtain ⟨m1, m2, m3, m4, m5, m6, m7, m8, m9, m10, m11⟩ := Mk.ok_true hm
  have HM := Lib.hid hm
  have HN : Hid ((n : Int) = m.C) := Lib.hid (by rw [← h.len]; exact hlen)
  have hn6 : n ≤ 6 := by have := HN.out; omega
  have hp : 0 < n := by have := HN.out; omega
  have HD := Lib.hid hdep
  have HL := Lib.hid h.len
  have HK := Lib.hid hkey
  clear hm hlen hdep hkey
  obtain ⟨ad, _, rfl, hab, _, _⟩ := h.at_ hp
  have b0 := (Below.refl w.heap.size w).alloc (Nat.le_refl _) (.cells #[.int .i64 m.C, .int .i64 m.D, .int .i64 m.S, .int .i64 m.M, .int .i64 m.L] 29)
  have hx := Boxed.new w 29 m
  obtain ⟨i0, hi, hz0, hz1, hz2⟩ := info_parts Try.info2'
  have HF := Lib.hid (And.intro hi (And.intro hz0 (And.intro hz1 hz2)))
  clear hi hz0 hz1 hz2
  go_enter Try.func111, Try.ntmps111
  go_wp2
  go_loopw [5, 6] (fun z x wr => ∃ (q : Nat) (s : Int), x = .int .i64 q ∧ z = .int .i64 s ∧ q ≤ n ∧ Hid (s = sumN q (rowAll m xs)) ∧ Boxed wr w.heap.size 29 m ∧ Below w.heap.size w wr) (fun _ x _ => n - (intOf x).toNat)
  case atStart => exact ⟨0, 0, rfl, rfl, Nat.zero_le _, Lib.hid rfl, hx, b0⟩
  case round =>
    obtain ⟨q, s, rfl, rfl, hq, hs, hbox, hbl⟩ := hrel
    by_cases hqn : q < n
    · obtain ⟨_, v, e0, _, hv, hcell⟩ := (h.below hbl).at_ hqn
      obtain rfl := (by injection e0 : ad = _)
      clear e0
      obtain ⟨v0, v1⟩ := allIn_at HD.out hv
      obtain ⟨u, rfl⟩ := Int.eq_ofNat_of_zero_le v0
      have HG : Hid ((xs.getD q 0).toNat = u) := Lib.hid (by rw [getD_at hv]; rfl)
      have HP := Lib.hid (show ((xs.take q).length = q) by rw [List.length_take, HL.out]; omega)
      obtain ⟨wo, rfl⟩ : ∃ wo : World, wo = wr := ⟨_, rfl⟩
      have X0 := Lib.hid hbox
      have B0 := Lib.hid hbl
      clear hv b0 hx hbox hbl
      have hqn' : (q : Int) < (n : Int) := by omega
      go_wp2
      go_loopw [5, 7] (fun z x wr => ∃ (d : Nat) (y : Int), x = .int .i64 d ∧ z = .int .i64 y ∧ d ≤ u ∧ Hid (y = sumN q (rowAll m xs) + rowSum m xs q d) ∧ Boxed wr w.heap.size 29 m ∧ Below w.heap.size w wr) (fun _ x _ => u - (intOf x).toNat)
      case atStart => exact ⟨0, s, rfl, rfl, Nat.zero_le _, Lib.hid (by rw [hs.out]; unfold rowSum; simp [sumN]), X0.out, B0.out⟩
      case round =>
        obtain ⟨d, y, rfl, rfl, hdu, hall2, hbox, hbl⟩ := hrel
        clear X0 B0
        obtain ⟨q0, q1, q2, q3, q4⟩ := hbox.cells
        have hsz := hbl.size
        have hcell2 : wr.cell? (ad.add q) = some (.int .i64 (u : Int)) := by
          obtain ⟨_, v', e0, _, hv', hcell'⟩ := (h.below hbl).at_ hqn
          obtain rfl := (by injection e0 : ad = _)
          have : v' = (u : Int) := by
            have e1 := getD_at hv'
            have e2 := HG.out
            obtain ⟨w0, _⟩ := allIn_at HD.out hv'
            rw [e1] at e2; omega
          rw [hcell', this]
        clear hcell
        by_cases hdlt : d < u
        · have hlt : (d : Int) < m.D := by omega
          have hdu2 : (d : Int) < (u : Int) := by omega
          have hI := (h.below hbl).front (Nat.le_of_lt hqn)
          have HX := Lib.hid hbox
          have HBL := Lib.hid hbl
          have hlw := hbox.lt
          clear hbox hbl
          have e0 := World.new_ne wr ⟨w.heap.size, 0, none⟩ q0
          have e1 := World.new_ne wr ⟨w.heap.size, 1, none⟩ q1
          have e2 := World.new_ne wr ⟨w.heap.size, 2, none⟩ q2
          have e3 := World.new_ne wr ⟨w.heap.size, 3, none⟩ q3
          have e4 := World.new_ne wr ⟨w.heap.size, 4, none⟩ q4
          have j0 : (0 : Int) ≤ (q : Int) := by omega
          have j1 : (q : Int) ≤ (c : Int) := by omega
          have HCI := Lib.hid (l02Count_any m HM.out (n - 1 - q))
          have HPA := Lib.hid (rank_part HK.out (i := q) (d := d + 1) (by rw [HL.out]; exact hqn) (by rw [HG.out]; exact hdlt))
          have HPB := Lib.hid (rank_part HK.out (i := q) (d := d) (by rw [HL.out]; exact hqn) (by rw [HG.out]; exact hdu))
          have HST : Hid (rowSum m xs q (d + 1) = rowSum m xs q d + ((keysFrom m (n - 1 - q) (xs.take q ++ [(d : Int)])).length : Int)) := Lib.hid (by unfold rowSum; rw [HL.out]; rfl)
          generalize hQ : (keysFrom m (n - 1 - q) (xs.take q ++ [(d : Int)])).length = Q at HST
          have HQ := Lib.hid hQ
          clear hQ
          have hyb : 0 ≤ y ∧ y ≤ 262144 ∧ 0 ≤ y + (Q : Int) ∧ y + (Q : Int) ≤ 262144 := by
            have a1 := HPA.out; have a2 := HPB.out; have a3 := hall2.out; have a4 := HST.out
            omega
          have g1 : IntKind.i64.wrap (y + (Q : Int)) = y + (Q : Int) := IntWalk.i64_in _ (by omega)
          go_wp2
          go_region_held3 (fun w' => w'.cell? ⟨w.heap.size, 0, none⟩ = some (.int .i64 m.C) ∧ w'.cell? ⟨w.heap.size, 1, none⟩ = some (.int .i64 m.D) ∧ w'.cell? ⟨w.heap.size, 2, none⟩ = some (.int .i64 m.S) ∧ w'.cell? ⟨w.heap.size, 3, none⟩ = some (.int .i64 m.M) ∧ w'.cell? ⟨w.heap.size, 4, none⟩ = some (.int .i64 m.L))
            (first
              | go_keep
              | exact ⟨(b2.cell (p := ⟨w.heap.size, 0, none⟩) hlw).trans q0, (b2.cell (p := ⟨w.heap.size, 1, none⟩) hlw).trans q1, (b2.cell (p := ⟨w.heap.size, 2, none⟩) hlw).trans q2, (b2.cell (p := ⟨w.heap.size, 3, none⟩) hlw).trans q3, (b2.cell (p := ⟨w.heap.size, 4, none⟩) hlw).trans q4⟩
              | exact XZ.out.cells
              | exact X5.out.cells
              | exact X6.out.cells)
            (first
              | (go_at_call 115; refine (l01Own_some ad q c (xs.take q) _ (ints_drewN (hI.more (Nat.le_of_lt hlw)) 1) (by omega)).mono ?_; rintro e w2 ⟨v2, rfl, r2, b2⟩; have X2 := Lib.hid ((HX.out.drewN 1).on b2))
              | (refine step_append_lies _ (by rfl) _ _ _ (by rfl) wr.heap.size 2 i0 _ 1 8 Try.underlying42 HF.out.1 HF.out.2.1 HF.out.2.2.1 HF.out.2.2.2 rfl (by omega) v2 q (intsV (xs.take q)) (by rfl) (r2.alloc _) ⟨w2.heap.size, 0, none⟩ 1 1 [.int .i64 (d : Int)] (by rfl) (by rfl) (World.news_of_block (cs := #[.int .i64 (d : Int)]) (t := 2) (fr := (0, 0)) (heap_alloc_new w2 _)) (by simp [Value.oneCell']) (by omega) (by unfold maxLen; omega) (by omega) (by have := b2.size; simp at this ⊢; omega) (w2.heap.size + 1) (by simp) ?_; intro gg cap w5 hown1 hgrow hat hlt3; have X5 := Lib.hid ((X2.out.alloc (.cells #[.int .i64 (d : Int)] 2)).grown hgrow (by intro e; have := rowBase r2 _ e.symm; simp at this; omega)); have B5 := Lib.hid ((((below_drewN HBL.out 1).trans (b2.mono HBL.out.size)).alloc (by have := b2.size; simp at this; omega) (.cells #[.int .i64 (d : Int)] 2)).grown hgrow (by have := b2.size; simp at this ⊢; omega) (fun q e => by have := rowBase r2 q e; simp at this; omega)))
              | (go_at_call 114; have hrow5 := hown1; rw [intsV_snoc] at hrow5; obtain ⟨ho5, hc5, hm5⟩ := rowIntsAt hrow5 (by rw [List.length_append, HP.out]; rfl); refine (HCI.out (some ⟨gg, 0, none⟩) (q + 1) cap (xs.take q ++ [(d : Int)]) w5 (by have := HN.out; omega) ho5.ints hc5 hm5 (by simp) (depth_snoc (depth_take HD.out q) hlt)).mono ?_; rw [HQ.out]; rintro e w6 ⟨rfl, b6⟩; have X6 := Lib.hid (X5.out.on b6))
              | (go_at_call 115; refine (l01Own_some ad q c (xs.take q) _ (ints_drewN (hI.alloc (Nat.le_of_lt hlw) (.cells #[.int .i64 (d : Int)] 2)) 1) (by omega)).mono ?_; rintro e wz ⟨vz, rfl, rz, bz⟩; have XZ := Lib.hid (((HX.out.alloc (.cells #[.int .i64 (d : Int)] 2)).drewN 1).on bz))
              | (refine step_append_lies _ (by rfl) _ _ _ (by rfl) wr.heap.size 2 i0 _ 1 8 Try.underlying42 HF.out.1 HF.out.2.1 HF.out.2.2.1 HF.out.2.2.2 rfl (by omega) vz q (intsV (xs.take q)) (by rfl) (rowMore rz (by simp)) ⟨wr.heap.size, 0, none⟩ 1 1 [.int .i64 (d : Int)] (by rfl) (by rfl) (news_behind bz) (by simp [Value.oneCell']) (by omega) (by unfold maxLen; omega) (by omega) (by have := bz.size; simp at this ⊢; omega) wz.heap.size rfl ?_; intro gg cap w5 hown1 hgrow hat hlt3; have X5 := Lib.hid (XZ.out.grown hgrow (by intro e; have := rowBase rz _ e.symm; simp at this; omega)); have B5 := Lib.hid (((below_drewN (HBL.out.alloc HBL.out.size (.cells #[.int .i64 (d : Int)] 2)) 1).trans (bz.mono (by simp; omega))).grown hgrow (by have := bz.size; simp at this ⊢; omega) (fun q e => by have := rowBase rz q e; simp at this; omega))))
          all_goals
            have B6 := Lib.hid (B5.out.trans (b6.mono (by have := B5.out.size; exact this)))
            clear q0 q1 q2 q3 q4 e0 e1 e2 e3 e4 hown1 hgrow hat hlt3 b6 X5 B5 g1 j0 j1
            go_wp2
            go_roundw
            case rel => exact ⟨d + 1, y + Q, by go_num, by go_num, hdlt, Lib.hid (by rw [HST.out, hall2.out]; omega), X6.out, B6.out⟩
            case measure => simp [intOf]; omega
        · have HE : Hid (y = sumN (q + 1) (rowAll m xs)) := Lib.hid (by
            rw [hall2.out]
            show _ = sumN q (rowAll m xs) + rowAll m xs q
            unfold rowAll
            rw [HG.out, show d = u by omega])
          have HX := Lib.hid hbox
          have hdu2 : ¬ (d : Int) < (u : Int) := by omega
          clear hall2 hbox
          go_wp2
          go_roundw
          case rel => exact ⟨q + 1, y, by go_num, rfl, by omega, HE, HX.out, hbl⟩
          case measure => simp [intOf]; omega
    · have HE : Hid (s = (rankN m xs : Int)) := Lib.hid (by rw [hs.out, (rank_is HK.out).1, HL.out, show q = n by omega])
      clear hs b0 hx
      go_wp2
      go_ret
      exact ⟨ret_int HE.out, hbl⟩

theorem specRankOf_any (m : Mk) (A : Option Addr) (n c : Nat) (xs : List Int) (w : World) (h : Ints w w.heap.size A n xs) (hn : n ≤ 1048576) (hc : n ≤ c) (hcm : c ≤ 9223372036854775807) :
    Calls Try.prog 60 #[.agg #[.int .i64 m.C, .int .i64 m.D, .int .i64 m.S, .int .i64 m.M, .int .i64 m.L], .slice A n c] w
      fun e w' => e = .returned (.tuple #[.int .i64 (rkV m xs), .int .i64 (ktE m xs)]) ∧ Below w.heap.size w w' := by
  have b0 := (Below.refl w.heap.size w).alloc (Nat.le_refl _) (.cells #[.int .i64 m.C, .int .i64 m.D, .int .i64 m.S, .int .i64 m.M, .int .i64 m.L] 29)
  have hx := Boxed.new w 29 m
  by_cases hz : ktE m xs = 0
  · obtain ⟨_, hk⟩ := kt_key hz
    rw [rk_yes hz, hz]
    have HZ := Lib.hid hz
    have HK := Lib.hid hk
    clear hz hk
    go_enter Try.func60, Try.ntmps60
    go_wp2_with fail
    refine (l02Code_any m A n c xs _ (h.on b0) hn hc hcm).mono ?_
    rw [HZ.out]
    rintro e w1 ⟨rfl, b1⟩
    have c1 := below_trans' b0 b1
    have x1 := hx.on b1
    obtain ⟨q0, q1, q2, q3, q4⟩ := x1.cells
    clear b0 b1 hx x1
    go_wp2_with fail
    clear q0 q1 q2 q3 q4
    refine (l03Rank_any m A n c xs _ (h.on c1) hc HK.out).mono ?_
    rintro e w2 ⟨rfl, b2⟩
    have c2 := below_trans' c1 b2
    go_wp2
    go_ret2
    exact ⟨rfl, c2⟩
  · rw [rk_no hz]
    obtain ⟨v, hv⟩ : ∃ v, ktE m xs = v := ⟨_, rfl⟩
    rw [hv] at hz ⊢
    have HV := Lib.hid hv
    have hq : (v != 0) = true := by simpa using hz
    clear hz hv
    go_enter Try.func60, Try.ntmps60
    go_wp2_with fail
    refine (l02Code_any m A n c xs _ (h.on b0) hn hc hcm).mono ?_
    rw [HV.out]
    rintro e w1 ⟨rfl, b1⟩
    have c1 := below_trans' b0 b1
    go_wp2
    go_ret2
    exact ⟨rfl, c1⟩

end Go.Proofs.Ytbadahnhlehidaa

namespace Go.Proofs.Ytbadahnhlehidaa
open Go Go.RowKit

def lenV : Value → Nat
  | .slice _ n _ => n
  | _ => 0
theorem at_front {A B : List (List Int)} {y : List Int} {j : Nat} (h : (A ++ B)[j]? = some y) (hj : j < A.length) : A[j]? = some y := by rwa [List.getElem?_append_left hj] at h
theorem at_back {A B : List (List Int)} {y : List Int} {j : Nat} (h : (A ++ B)[j]? = some y) (hj : ¬ j < A.length) : B[j - A.length]? = some y := by rwa [List.getElem?_append_right (by omega)] at h
theorem keys_begin {m : Mk} {k j : Nat} {xs y : List Int} (h : (keysFrom m k xs)[j]? = some y) : beginsB m xs = true := by
  rcases hb : beginsB m xs with _ | _
  · rw [keys_stop hb] at h; simp at h
  · rfl
theorem keys_last {m : Mk} {j : Nat} {xs y : List Int} (h : (keysFrom m 0 xs)[j]? = some y) : xs = y := by
  have hb := keys_begin h
  by_cases hk : m.L ≤ (kinds xs : Int)
  · rw [keys_zero_yes hb hk] at h
    have h2 := (List.getElem?_eq_some_iff.1 h)
    obtain ⟨h3, h4⟩ := h2
    simpa using h4
  · rw [keys_zero_no hb hk] at h; simp at h

set_option maxRecDepth 100000 in
set_option maxHeartbeats 8000000 in
theorem specKeyAt_any (m : Mk) (r : Int) (w : World) :
    Calls Try.prog 62 #[.agg #[.int .i64 m.C, .int .i64 m.D, .int .i64 m.S, .int .i64 m.M, .int .i64 m.L], .int .i64 r] w
      (GivesList w (kaE m r) (kaL m r)) := by
  have b0 := (Below.refl w.heap.size w).alloc (Nat.le_refl _) (.cells #[.int .i64 m.C, .int .i64 m.D, .int .i64 m.S, .int .i64 m.M, .int .i64 m.L] 29)
  have hx := Boxed.new w 29 m
  rcases hm : m.ok with _ | _
  · obtain ⟨e1, e2⟩ := ka_bad (r := r) hm
    rw [e1, e2]; clear e1 e2
    go_enter Try.func62, Try.ntmps62
    go_wp2_with fail
    refine (specIsMaker_any m _).mono ?_
    rw [hm]
    rintro e w1 ⟨rfl, b1⟩
    have c1 := below_trans' b0 b1
    go_wp2
    go_ret2
    exact ⟨none, 0, 0, rfl, Own.nil _ (Nat.le_refl _), by omega, by omega, by omega, c1⟩
  have HM := Lib.hid hm
  obtain ⟨m1, m2, m3, m4, m5, m6, m7, m8, m9, m10, m11⟩ := Mk.ok_true hm
  clear hm
  by_cases hr : 0 ≤ r
  rotate_left
  · obtain ⟨e1, e2⟩ := ka_no (m := m) (r := r) HM.out (by unfold kaOk; rw [decide_eq_false hr]; rfl)
    rw [e1, e2]; clear e1 e2
    have hneg : r < 0 := by omega
    go_enter Try.func62, Try.ntmps62
    go_wp2_with fail
    refine (specIsMaker_any m _).mono ?_
    rw [HM.out]
    rintro e w1 ⟨rfl, b1⟩
    have c1 := below_trans' b0 b1
    go_wp2
    go_ret2
    exact ⟨none, 0, 0, rfl, Own.nil _ (Nat.le_refl _), by omega, by omega, by omega, c1⟩
  obtain ⟨r0, rfl⟩ := Int.eq_ofNat_of_zero_le hr
  have HT : Hid ((allKeys m).length ≤ 262144) := Lib.hid (Nat.le_trans (keys_count m4 m.C.toNat []) (pow8 (by omega)))
  have HCN := Lib.hid (l02Count_any m HM.out m.C.toNat none 0 0 [])
  have HAK : Hid (keysFrom m m.C.toNat [] = allKeys m) := Lib.hid rfl
  by_cases hlt : r0 < (allKeys m).length
  rotate_left
  · obtain ⟨e1, e2⟩ := ka_no (m := m) (r := (r0 : Int)) HM.out (by unfold kaOk; rw [decide_eq_false (p := ((r0 : Int) < ((allKeys m).length : Int))) (by omega), Bool.and_false])
    rw [e1, e2]; clear e1 e2
    have hge : ((allKeys m).length : Int) ≤ (r0 : Int) := by omega
    have hneg : ¬ (r0 : Int) < 0 := by omega
    go_enter Try.func62, Try.ntmps62
    go_wp2_with fail
    refine (specIsMaker_any m _).mono ?_
    rw [HM.out]
    rintro e w1 ⟨rfl, b1⟩
    have c1 := below_trans' b0 b1
    have x1 := hx.on b1
    obtain ⟨q0, q1, q2, q3, q4⟩ := x1.cells
    clear hx b0 b1 x1 hlt
    go_wp2_with fail
    clear q0 q1 q2 q3 q4
    refine (HCN.out _ (by omega) ⟨rfl, fun h => absurd h (by omega)⟩ (by omega) (by omega) (fun _ => by simp) rfl).mono ?_
    rw [HAK.out]
    rintro e w2 ⟨rfl, b2⟩
    have c2 := below_trans' c1 b2
    go_wp2
    go_ret2
    exact ⟨none, 0, 0, rfl, Own.nil _ (Nat.le_refl _), by omega, by omega, by omega, c2⟩
  obtain ⟨y, hy⟩ : ∃ y, (allKeys m)[r0]? = some y := ⟨_, List.getElem?_eq_getElem hlt⟩
  obtain ⟨e1, e2⟩ : kaL m (r0 : Int) = y ∧ kaE m (r0 : Int) = 0 := by
    obtain ⟨hl, e⟩ := List.getElem?_eq_some_iff.1 hy
    refine ka_yes HM.out (p := (allKeys m).take r0) (R := (allKeys m).drop (r0 + 1)) ?_ (by rw [List.length_take]; omega)
    rw [← e, ← List.drop_eq_getElem_cons hl, List.take_append_drop]
  rw [e1, e2]; clear e1 e2
  have HYY := Lib.hid hy
  have hge : (r0 : Int) < ((allKeys m).length : Int) := by omega
  have hneg : ¬ (r0 : Int) < 0 := by omega
  obtain ⟨n, hn⟩ : ∃ n : Nat, (n : Int) = m.C := ⟨m.C.toNat, by omega⟩
  have HN := Lib.hid hn
  have hn6 : n ≤ 6 := by omega
  have hr0 : r0 < 262144 := by have := HT.out; omega
  obtain ⟨i0, hi, hz0, hz1, hz2⟩ := info_parts Try.info2'
  have HF := Lib.hid (And.intro hi (And.intro hz0 (And.intro hz1 hz2)))
  clear hi hz0 hz1 hz2 hy hn
  go_enter Try.func62, Try.ntmps62
  go_wp2_with fail
  refine (specIsMaker_any m _).mono ?_
  rw [HM.out]
  rintro e w1 ⟨rfl, b1⟩
  have c1 := below_trans' b0 b1
  have x1 := hx.on b1
  obtain ⟨q0, q1, q2, q3, q4⟩ := x1.cells
  clear hx b0 b1 hlt
  go_wp2_with fail
  clear q0 q1 q2 q3 q4
  refine (HCN.out _ (by omega) ⟨rfl, fun h => absurd h (by omega)⟩ (by omega) (by omega) (fun _ => by simp) rfl).mono ?_
  rw [HAK.out]
  rintro e w2 ⟨rfl, b2⟩
  have c2 := below_trans' c1 b2
  have x2 := x1.on b2
  have hs2 := c2.size
  clear c1 b2 x1
  have d0 : decide ((r0 : Int) < 0) = false := decide_eq_false (by omega)
  have d1 : decide ((allKeys m).length ≤ r0) = false := decide_eq_false (by omega)
  have d2 : decide (((allKeys m).length : Int) ≤ (r0 : Int)) = false := decide_eq_false (by omega)
  go_wp2
  clear hge hneg d0 d1 d2
  go_loopw [1, 6] (fun rk o wr => ∃ (k j g cap : Nat) (ys : List Int), k ≤ n ∧ Hid (ys.length = k) ∧ rk = .int .i64 j ∧ j < 262144 ∧ o = .slice (some ⟨g, 0, none⟩) k cap ∧ Hid (wr.ownsRow w.heap.size 2 1 (.slice (some ⟨g, 0, none⟩) k cap) k (intsV ys)) ∧ Hid ((keysFrom m (n - k) ys)[j]? = some y) ∧ Hid (allIn 0 (m.D - 1) ys = true) ∧ Boxed wr w.heap.size 29 m ∧ g ≠ w.heap.size ∧ Below w.heap.size w wr) (fun _ o _ => n - lenV o)
  case atStart =>
    exact ⟨0, r0, _, 0, [], Nat.zero_le _, Lib.hid rfl, rfl, hr0, rfl, Lib.hid (rowNil hs2), Lib.hid (by rw [Nat.sub_zero, show n = m.C.toNat by have := HN.out; omega, HAK.out]; exact HYY.out), Lib.hid rfl, x2.alloc _, by have := x2.lt; omega, c2.alloc hs2 _⟩
  case round =>
    obtain ⟨k, j, g, cap, ys, hk, hlen, rfl, hj, rfl, hrow, hat0, hdep, hbox, hgne, hbl⟩ := hrel
    clear x2 c2
    have HBX := Lib.hid hbox
    have HBL0 := Lib.hid hbl
    obtain ⟨q0, q1, q2, q3, q4⟩ := hbox.cells
    by_cases hkn : k < n
    · have hkC : (k : Int) < m.C := by have := HN.out; omega
      have HTL : Hid ((tails m (n - 1 - k) ys 0)[j]? = some y) := Lib.hid (by
        have h1 := hat0.out
        rw [show n - k = (n - 1 - k) + 1 by omega] at h1
        rw [keys_succ (keys_begin h1)] at h1
        exact h1)
      have HG := Lib.hid hgne
      clear hbox hbl hat0 hgne
      obtain ⟨wo, rfl⟩ : ∃ wo : World, wo = wr := ⟨_, rfl⟩
      go_wp2
      clear q0 q1 q2 q3 q4
      go_loopw [1, 7] (fun rk x wr => ∃ (d j2 : Nat), x = .int .i64 d ∧ rk = .int .i64 j2 ∧ d ≤ 8 ∧ j2 < 262144 ∧ Hid ((tails m (n - 1 - k) ys d)[j2]? = some y) ∧ Hid (wr.ownsRow w.heap.size 2 1 (.slice (some ⟨g, 0, none⟩) k cap) k (intsV ys)) ∧ Boxed wr w.heap.size 29 m ∧ Below w.heap.size w wr) (fun _ x _ => 9 - (intOf x).toNat)
      case atStart => exact ⟨0, j, rfl, rfl, by omega, hj, HTL, hrow, HBX.out, HBL0.out⟩
      case round =>
        obtain ⟨d, j2, rfl, rfl, hd8, hj2, htl, hrow2, hbox, hbl⟩ := hrel
        clear HBX HBL0 hrow
        have hdD : d < m.D.toNat := by
          rcases Nat.lt_or_ge d m.D.toNat with h | h
          · exact h
          · have h1 := htl.out
            rw [tails_end (by omega)] at h1; simp at h1
        have hlt : (d : Int) < m.D := by omega
        obtain ⟨q0, q1, q2, q3, q4⟩ := hbox.cells
        have hsz := hbl.size
        have HX := Lib.hid hbox
        have HBL := Lib.hid hbl
        have hlw := hbox.lt
        obtain ⟨hoI, hcI, hmI⟩ := rowIntsAt hrow2.out hlen.out
        have hI : Ints wr wr.heap.size (some ⟨g, 0, none⟩) k ys := hoI.ints
        have HI := Lib.hid hI
        clear hbox hbl hoI hI
        have e0 := World.new_ne wr ⟨w.heap.size, 0, none⟩ q0
        have e1 := World.new_ne wr ⟨w.heap.size, 1, none⟩ q1
        have e2 := World.new_ne wr ⟨w.heap.size, 2, none⟩ q2
        have e3 := World.new_ne wr ⟨w.heap.size, 3, none⟩ q3
        have e4 := World.new_ne wr ⟨w.heap.size, 4, none⟩ q4
        have HCI := Lib.hid (l02Count_any m HM.out (n - 1 - k))
        have HQB : Hid ((keysFrom m (n - 1 - k) (ys ++ [(d : Int)])).length ≤ 262144) := Lib.hid (Nat.le_trans (keys_count m4 _ _) (pow8 (by omega)))
        have HTS := Lib.hid (tails_step (m := m) (k := n - 1 - k) (xs := ys) hdD)
        obtain ⟨Q, hQ⟩ : ∃ Q, (keysFrom m (n - 1 - k) (ys ++ [(d : Int)])).length = Q := ⟨_, rfl⟩
        have HQ := Lib.hid hQ
        have hQb : Q ≤ 262144 := by rw [← hQ]; exact HQB.out
        clear hQ
        go_wp2
        go_region_held3 (fun w' => w'.cell? ⟨w.heap.size, 0, none⟩ = some (.int .i64 m.C) ∧ w'.cell? ⟨w.heap.size, 1, none⟩ = some (.int .i64 m.D) ∧ w'.cell? ⟨w.heap.size, 2, none⟩ = some (.int .i64 m.S) ∧ w'.cell? ⟨w.heap.size, 3, none⟩ = some (.int .i64 m.M) ∧ w'.cell? ⟨w.heap.size, 4, none⟩ = some (.int .i64 m.L))
          (first
            | go_keep
            | exact ⟨(b2.cell (p := ⟨w.heap.size, 0, none⟩) hlw).trans q0, (b2.cell (p := ⟨w.heap.size, 1, none⟩) hlw).trans q1, (b2.cell (p := ⟨w.heap.size, 2, none⟩) hlw).trans q2, (b2.cell (p := ⟨w.heap.size, 3, none⟩) hlw).trans q3, (b2.cell (p := ⟨w.heap.size, 4, none⟩) hlw).trans q4⟩
            | exact XZ.out.cells
            | exact X5.out.cells
            | exact X6.out.cells)
          (first
            | (go_at_call 115; refine (l01Own_some ⟨g, 0, none⟩ k cap ys _ (ints_drewN HI.out 1) (by omega)).mono ?_; rintro e w2 ⟨v2, rfl, r2, b2⟩; have X2 := Lib.hid ((HX.out.drewN 1).on b2))
            | (refine step_append_lies _ (by rfl) _ _ _ (by rfl) wr.heap.size 2 i0 _ 1 8 Try.underlying42 HF.out.1 HF.out.2.1 HF.out.2.2.1 HF.out.2.2.2 rfl (by omega) v2 k (intsV ys) (by rfl) (r2.alloc _) ⟨w2.heap.size, 0, none⟩ 1 1 [.int .i64 (d : Int)] (by rfl) (by rfl) (World.news_of_block (cs := #[.int .i64 (d : Int)]) (t := 2) (fr := (0, 0)) (heap_alloc_new w2 _)) (by simp [Value.oneCell']) (by omega) (by unfold maxLen; omega) (by omega) (by have := b2.size; simp at this ⊢; omega) (w2.heap.size + 1) (by simp) ?_; intro gg cap5 w5 hown1 hgrow hat hlt3; have X5 := Lib.hid ((X2.out.alloc (.cells #[.int .i64 (d : Int)] 2)).grown hgrow (by intro e; have := rowBase r2 _ e.symm; simp at this; omega)); have C5 := Lib.hid ((((below_drewN (Below.refl wr.heap.size wr) 1).trans b2).alloc (by have := b2.size; simp at this; omega) (.cells #[.int .i64 (d : Int)] 2)).grown hgrow (by have := b2.size; simp at this ⊢; omega) (fun q e => by have := rowBase r2 q e; simp at this; omega)))
            | (go_at_call 114; have hrow5 := hown1; rw [intsV_snoc] at hrow5; obtain ⟨ho5, hc5, hm5⟩ := rowIntsAt hrow5 (by rw [List.length_append, hlen.out]; rfl); refine (HCI.out (some ⟨gg, 0, none⟩) (k + 1) cap5 (ys ++ [(d : Int)]) w5 (by have := HN.out; omega) ho5.ints hc5 hm5 (by simp) (depth_snoc hdep.out hlt)).mono ?_; rw [HQ.out]; rintro e w6 ⟨rfl, b6⟩; have X6 := Lib.hid (X5.out.on b6))
            | (go_at_call 115; refine (l01Own_some ⟨g, 0, none⟩ k cap ys _ (ints_drewN (HI.out.alloc (Nat.le_refl _) (.cells #[.int .i64 (d : Int)] 2)) 1) (by omega)).mono ?_; rintro e wz ⟨vz, rfl, rz, bz⟩; have XZ := Lib.hid (((HX.out.alloc (.cells #[.int .i64 (d : Int)] 2)).drewN 1).on bz))
            | (refine step_append_lies _ (by rfl) _ _ _ (by rfl) wr.heap.size 2 i0 _ 1 8 Try.underlying42 HF.out.1 HF.out.2.1 HF.out.2.2.1 HF.out.2.2.2 rfl (by omega) vz k (intsV ys) (by rfl) (rowMore rz (by simp)) ⟨wr.heap.size, 0, none⟩ 1 1 [.int .i64 (d : Int)] (by rfl) (by rfl) (news_behind bz) (by simp [Value.oneCell']) (by omega) (by unfold maxLen; omega) (by omega) (by have := bz.size; simp at this ⊢; omega) wz.heap.size rfl ?_; intro gg cap5 w5 hown1 hgrow hat hlt3; have X5 := Lib.hid (XZ.out.grown hgrow (by intro e; have := rowBase rz _ e.symm; simp at this; omega)); have C5 := Lib.hid (((below_drewN ((Below.refl wr.heap.size wr).alloc (Nat.le_refl _) (.cells #[.int .i64 (d : Int)] 2)) 1).trans (bz.mono (by simp))).grown hgrow (by have := bz.size; simp at this ⊢; omega) (fun q e => by have := rowBase rz q e; simp at this; omega))))
        all_goals
          have C6 := Lib.hid (C5.out.trans (b6.mono C5.out.size))
          have B6 := Lib.hid (HBL.out.trans (C6.out.mono hsz))
          have R6 := Lib.hid (rowBelow hrow2.out C6.out)
          clear q0 q1 q2 q3 q4 e0 e1 e2 e3 e4 hown1 hgrow hat hlt3 b6 X5 C5
          by_cases hjQ : j2 < Q
          · have HNX := Lib.hid (at_front (by have := htl.out; rwa [HTS.out] at this) (by rw [HQ.out]; exact hjQ))
            have HSN := Lib.hid (show (ys ++ [(d : Int)]).length = k + 1 by rw [List.length_append, hlen.out]; rfl)
            have HDS := Lib.hid (depth_snoc hdep.out hlt)
            have s6 := B6.out.size
            have hjQ' : (j2 : Int) < (Q : Int) := by omega
            clear htl
            go_wp2_with (at_builtin; refine wpList_append_lies _ rfl _ _ 42 rfl w.heap.size 2 i0 _ 1 8 Try.underlying42 HF.out.1 HF.out.2.1 HF.out.2.2.1 HF.out.2.2.2 rfl (by omega) (.slice (some ⟨g, 0, none⟩) k cap) k (intsV ys) rfl (R6.out.alloc _) ⟨w6.heap.size, 0, none⟩ 1 1 [.int .i64 (d : Int)] rfl rfl (World.news_of_block (cs := #[.int .i64 (d : Int)]) (t := 2) (fr := (0, 0)) (heap_alloc_new w6 _)) (by simp [Value.oneCell']) (by omega) (by unfold maxLen; omega) (by omega) (by simp; omega) (w6.heap.size + 1) (by simp) ?_; intro g7 cap7 w7 hown7 hgrow7 hat7 hlt7)
            have HW := Lib.hid (show g7 ≠ w.heap.size by
              rcases hat7 with e | e
              · have e' : g = g7 := by simpa [Value.ownBlock] using e
                rw [← e']; exact HG.out
              · omega)
            have X7 := Lib.hid ((X6.out.alloc (.cells #[.int .i64 (d : Int)] 2)).grown hgrow7 (by intro e; have e' : w.heap.size = g := (by simpa [Value.ownBlock] using e); exact HG.out e'.symm))
            have B7 := Lib.hid ((B6.out.alloc s6 (.cells #[.int .i64 (d : Int)] 2)).grown hgrow7 (by simp; omega) (fun q e => by have := rowBase R6.out q e; omega))
            rw [intsV_snoc] at hown7
            have R7 := Lib.hid hown7
            clear hown7 hgrow7 hat7 hlt7
            go_wp2
            go_roundw
            case rel => exact ⟨k + 1, j2, g7, cap7, ys ++ [(d : Int)], by omega, HSN, rfl, hj2, rfl, R7, Lib.hid (by rw [show n - (k + 1) = n - 1 - k by omega]; exact HNX.out), HDS, X7.out, HW.out, B7.out⟩
            case measure => simp [lenV]; omega
          · have HNX := Lib.hid (at_back (by have := htl.out; rwa [HTS.out] at this) (by rw [HQ.out]; exact hjQ))
            have hjQ' : ¬ (j2 : Int) < (Q : Int) := by omega
            have g2 : IntKind.i64.wrap ((j2 : Int) - (Q : Int)) = ((j2 - Q : Nat) : Int) := by rw [IntWalk.i64_in _ (by omega)]; omega
            clear htl
            go_wp2
            go_roundw
            case rel => exact ⟨d + 1, j2 - Q, by go_num, by go_num, by omega, by omega, Lib.hid (by rw [← HQ.out]; exact HNX.out), R6, X6.out, B6.out⟩
            case measure => simp [intOf]; omega
    · have hkC : ¬ (k : Int) < m.C := by have := HN.out; omega
      have HE : Hid (ys = y) := Lib.hid (by
        have h1 := hat0.out
        rw [show n - k = 0 by omega] at h1
        exact keys_last h1)
      obtain ⟨ho, hc1, hc2⟩ := rowIntsAt hrow.out hlen.out
      have HO := Lib.hid ho
      clear hbox hat0 ho
      go_wp2
      go_ret2
      exact ⟨_, k, cap, rfl, by rw [← HE.out]; exact HO.out, by omega, hc1, hc2, hbl⟩

end Go.Proofs.Ytbadahnhlehidaa
