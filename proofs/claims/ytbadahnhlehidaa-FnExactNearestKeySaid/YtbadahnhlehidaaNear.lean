/- l03Near and KeysNear of the model. KeysNear of the program. -/
import Derived.Test.YtbadahnhlehidaaSRank
import Derived.Test.YtbadahnhlehidaaRank
namespace Go.Proofs.Ytbadahnhlehidaa
open Go Go.RowKit

/-- in how many places from i on two lists differ -/
def restD (key y : List Int) (i : Nat) : Int := diffTo key y key.length - diffTo key y i
def nearP (key : List Int) (i : Nat) (z : Int) (y : List Int) : Bool := decide (restD key y i = z)
def nearN (m : Mk) (key : List Int) (k : Nat) (xs : List Int) (z : Int) : Nat := ((keysFrom m k xs).filter (nearP key xs.length z)).length
theorem diffTo_mono (xs ys : List Int) {a b : Nat} (h : a ≤ b) : diffTo xs ys a ≤ diffTo xs ys b := sumN_mono (fun _ => (unlike_le _ _).1) h
theorem near_le (m : Mk) (key : List Int) (k : Nat) (xs : List Int) (z : Int) : nearN m key k xs z ≤ (keysFrom m k xs).length := List.length_filter_le _ _
theorem near_stop {m : Mk} {key : List Int} {k : Nat} {xs : List Int} {z : Int} (h : beginsB m xs = false) : nearN m key k xs z = 0 := by unfold nearN; rw [keys_stop h]; rfl
theorem near_neg {m : Mk} {key : List Int} {k : Nat} {xs : List Int} {z : Int} (hl : xs.length ≤ key.length) (h : z < 0) : nearN m key k xs z = 0 := by
  unfold nearN
  rw [List.length_eq_zero_iff, List.filter_eq_nil_iff]
  intro y _
  unfold nearP restD
  have := diffTo_mono key y hl
  simp; omega
theorem near_last {m : Mk} {key xs : List Int} {z : Int} (hl : xs.length = key.length) (hb : beginsB m xs = true) (hz : 0 ≤ z) :
    nearN m key 0 xs z = if 0 < z ∨ (kinds xs : Int) < m.L then 0 else 1 := by
  unfold nearN
  have h0 : restD key xs xs.length = 0 := by unfold restD; rw [hl]; omega
  by_cases hk : (kinds xs : Int) < m.L
  · rw [keys_zero_no hb (by omega), if_pos (Or.inr hk)]; rfl
  · rw [keys_zero_yes hb (by omega)]
    by_cases hz2 : 0 < z
    · rw [if_pos (Or.inl hz2), List.filter_cons_of_neg (by unfold nearP; rw [h0]; simp; omega)]; rfl
    · rw [if_neg (by omega), List.filter_cons_of_pos (by unfold nearP; rw [h0]; simp; omega)]; rfl
/-- the step: the next cut is d -/
theorem near_step {m : Mk} {key xs : List Int} {k : Nat} {d : Nat} {z v : Int} (hv : key[xs.length]? = some v) :
    ((keysFrom m k (xs ++ [(d : Int)])).filter (nearP key xs.length z)).length = nearN m key k (xs ++ [(d : Int)]) (z - unlike v d) := by
  unfold nearN
  congr 1
  refine List.filter_congr (fun y hy => ?_)
  obtain ⟨h1, h2, _⟩ := keys_facts hy
  have h3 : y.getD xs.length 0 = (d : Int) := by
    have h4 : y[xs.length]? = (y.take (xs ++ [(d : Int)]).length)[xs.length]? := by
      rw [List.getElem?_take_of_lt (by rw [List.length_append]; simp)]
    rw [List.getD_eq_getElem?_getD, h4, h2, List.getElem?_append_right (Nat.le_refl _)]
    simp
  have h5 : diffTo key y (xs.length + 1) = diffTo key y xs.length + unlike v d := by
    show diffTo key y xs.length + unlike (key.getD xs.length 0) (y.getD xs.length 0) = _
    rw [h3, getD_at hv]
  unfold nearP restD
  rw [List.length_append, List.length_singleton, h5]
  congr 1
  exact propext ⟨fun h => by omega, fun h => by omega⟩
theorem filter_app {P : List Int → Bool} {A B : List (List Int)} : ((A ++ B).filter P).length = (A.filter P).length + (B.filter P).length := by rw [List.filter_append, List.length_append]

def NearAll (m : Mk) (key : List Int) (A' : Option Addr) (nk ck : Nat) (k : Nat) : Prop :=
  ∀ (A : Option Addr) (n c : Nat) (xs : List Int) (z : Int) (w : World), n + k = nk → Ints w w.heap.size A' nk key → Ints w w.heap.size A n xs → n ≤ c → c ≤ 9223372036854775807 → (A = none → n = 0 ∧ c = 0) → allIn 0 (m.D - 1) xs = true → -1 ≤ z → z ≤ 1000 →
    Calls Try.prog 116 #[.agg #[.int .i64 m.C, .int .i64 m.D, .int .i64 m.S, .int .i64 m.M, .int .i64 m.L], .slice A' nk ck, .slice A n c, .int .i64 z] w fun e w' => e = .returned (.int .i64 (nearN m key k xs z : Int)) ∧ Below w.heap.size w w'

set_option maxRecDepth 100000 in
set_option maxHeartbeats 16000000 in
theorem l03Near_step (m : Mk) (hm : m.ok = true) (key : List Int) (A' : Option Addr) (nk ck : Nat) (hkC : (nk : Int) = m.C) (k : Nat) (IH : ∀ j, k = j + 1 → NearAll m key A' nk ck j) : NearAll m key A' nk ck k := by
  intro A n c xs z w hnk hkey h hc hcm hA hd hz1 hz2
  obtain ⟨m1, m2, m3, m4, m5, m6, m7, m8, m9, m10, m11⟩ := Mk.ok_true hm
  have HM := Lib.hid hm
  have HNK := Lib.hid hnk
  have hnk6 : nk ≤ 6 := by omega
  have hn6 : n ≤ 6 := by omega
  have hk6 : k ≤ 6 := by omega
  have HD := Lib.hid hd
  have HI := Lib.hid IH
  have HA := Lib.hid hA
  have HL := Lib.hid h.len
  have HLK := Lib.hid hkey.len
  have HKC := Lib.hid hkC
  clear hm hnk hd IH hA hkC
  have b0 := (Below.refl w.heap.size w).alloc (Nat.le_refl _) (.cells #[.int .i64 m.C, .int .i64 m.D, .int .i64 m.S, .int .i64 m.M, .int .i64 m.L] 29)
  have hx := Boxed.new w 29 m
  have hTb : nearN m key k xs z ≤ 262144 := Nat.le_trans (near_le m key k xs z) (Nat.le_trans (keys_count m4 k xs) (pow8 hk6))
  generalize hT : nearN m key k xs z = T at hTb ⊢
  have HT := Lib.hid hT
  clear hT
  obtain ⟨i0, hi, hz0', hz1', hz2'⟩ := info_parts Try.info2'
  have HF := Lib.hid (And.intro hi (And.intro hz0' (And.intro hz1' hz2')))
  clear hi hz0' hz1' hz2'
  rcases hb : beginsB m xs with _ | _
  · have HE : Hid (T = 0) := Lib.hid (by rw [← HT.out, near_stop hb])
    go_enter Try.func116, Try.ntmps116
    go_wp2_with fail
    refine (l02Begins_any m _ _ _ xs _ (h.on b0) (by omega) HM.out HD.out).mono ?_
    rw [hb]
    rintro e w1 ⟨rfl, b1⟩
    have c1 := below_trans' b0 b1
    clear b0 b1 hb hx
    go_wp2
    go_ret
    exact ⟨ret_int (by rw [HE.out]; rfl), c1⟩
  have HB := Lib.hid hb
  clear hb
  by_cases hneg : z < 0
  · have HE : Hid (T = 0) := Lib.hid (by rw [← HT.out, near_neg (by rw [HL.out, HLK.out]; have := HNK.out; omega) hneg])
    go_enter Try.func116, Try.ntmps116
    go_wp2_with fail
    refine (l02Begins_any m _ _ _ xs _ (h.on b0) (by omega) HM.out HD.out).mono ?_
    rw [HB.out]
    rintro e w1 ⟨rfl, b1⟩
    have c1 := below_trans' b0 b1
    clear b0 b1 hx
    go_wp2
    go_ret
    exact ⟨ret_int (by rw [HE.out]; rfl), c1⟩
  have hz0 : 0 ≤ z := by omega
  have dneg : decide (z < 0) = false := decide_eq_false hneg
  rcases k with _ | j
  · have htest : ((n : Int) == (nk : Int)) = true := by have := HNK.out; simp; omega
    have HN := Lib.hid (near_last (m := m) (key := key) (xs := xs) (z := z) (by rw [HL.out, HLK.out]; have := HNK.out; omega) HB.out hz0)
    by_cases hzp : 0 < z
    · have HE : Hid (T = 0) := Lib.hid (by rw [← HT.out, HN.out, if_pos (Or.inl hzp)])
      have dz : decide (0 < z) = true := decide_eq_true hzp
      go_enter Try.func116, Try.ntmps116
      go_wp2_with fail
      refine (l02Begins_any m _ _ _ xs _ (h.on b0) (by omega) HM.out HD.out).mono ?_
      rw [HB.out]
      rintro e w1 ⟨rfl, b1⟩
      have c1 := below_trans' b0 b1
      have x1 := hx.on b1
      obtain ⟨q0, q1, q2, q3, q4⟩ := x1.cells
      clear b0 b1 hx x1
      go_wp2
      go_quiet (fail)
      go_wp2
      go_ret
      exact ⟨ret_int (by rw [HE.out]; rfl), below_drewN c1 _⟩
    · have dz : decide (0 < z) = false := decide_eq_false hzp
      by_cases hL : (kinds xs : Int) < m.L
      · have dL : decide ((kinds xs : Int) < m.L) = true := by simpa using hL
        have HE : Hid (T = 0) := Lib.hid (by rw [← HT.out, HN.out, if_pos (Or.inr hL)])
        clear hL
        go_enter Try.func116, Try.ntmps116
        go_wp2_with fail
        refine (l02Begins_any m _ _ _ xs _ (h.on b0) (by omega) HM.out HD.out).mono ?_
        rw [HB.out]
        rintro e w1 ⟨rfl, b1⟩
        have c1 := below_trans' b0 b1
        have x1 := hx.on b1
        have hi1 := h.on c1
        obtain ⟨q0, q1, q2, q3, q4⟩ := x1.cells
        clear b0 b1 hx x1
        go_wp2
        go_quiet ((go_at_call 137; exact quiet_on (l02Kinds_any _ _ _ xs _ (ints_drewN hi1 _) (by omega) hc hcm)))
        go_wp2
        go_ret
        exact ⟨ret_int (by rw [HE.out]; rfl), below_drewN c1 _⟩
      · have dL : decide ((kinds xs : Int) < m.L) = false := by simpa using hL
        have HE : Hid (T = 1) := Lib.hid (by rw [← HT.out, HN.out, if_neg (by omega)])
        clear hL
        go_enter Try.func116, Try.ntmps116
        go_wp2_with fail
        refine (l02Begins_any m _ _ _ xs _ (h.on b0) (by omega) HM.out HD.out).mono ?_
        rw [HB.out]
        rintro e w1 ⟨rfl, b1⟩
        have c1 := below_trans' b0 b1
        have x1 := hx.on b1
        have hi1 := h.on c1
        obtain ⟨q0, q1, q2, q3, q4⟩ := x1.cells
        clear b0 b1 hx x1
        go_wp2
        go_quiet ((go_at_call 137; exact quiet_on (l02Kinds_any _ _ _ xs _ (ints_drewN hi1 _) (by omega) hc hcm)))
        go_wp2
        go_ret
        exact ⟨ret_int (by rw [HE.out]; rfl), below_drewN c1 _⟩
  · have htest : ((n : Int) == (nk : Int)) = false := by have := HNK.out; simp; omega
    have hnlt : n < nk := by have := HNK.out; omega
    have HS := Lib.hid (keys_succ (k := j) HB.out)
    obtain ⟨adk, kv, rfl, habk, hkv, hck1⟩ := hkey.at_ hnlt
    have HKV := Lib.hid (show key[xs.length]? = some kv by rw [HL.out]; exact hkv)
    clear hkv
    go_enter Try.func116, Try.ntmps116
    go_wp2_with fail
    refine (l02Begins_any m _ _ _ xs _ (h.on b0) (by omega) HM.out HD.out).mono ?_
    rw [HB.out]
    rintro e w1 ⟨rfl, b1⟩
    have c1 := below_trans' b0 b1
    have x1 := hx.on b1
    obtain ⟨q0, q1, q2, q3, q4⟩ := x1.cells
    clear b0 b1 hx
    go_wp2
    clear q0 q1 q2 q3 q4
    go_loopw [9, 10] (fun t x wr => ∃ d s : Nat, x = .int .i64 d ∧ t = .int .i64 s ∧ d ≤ 8 ∧ Hid (s + ((tails m j xs d).filter (nearP key xs.length z)).length = T) ∧ Boxed wr w.heap.size 29 m ∧ Below w.heap.size w wr) (fun _ x _ => 9 - (intOf x).toNat)
    case atStart => exact ⟨0, 0, rfl, rfl, by omega, Lib.hid (by rw [← HT.out]; unfold nearN; rw [HS.out]; omega), x1, c1⟩
    case round =>
      obtain ⟨d, s, rfl, rfl, hd8, hall, hbox, hbl⟩ := hrel
      clear x1 c1
      obtain ⟨q0, q1, q2, q3, q4⟩ := hbox.cells
      have hsz := hbl.size
      by_cases hlt : (d : Int) < m.D
      · have hI := h.below hbl
        have hck2 := (hbl.cell (p := adk.add n) (by rw [block_of_add]; exact habk)).trans hck1
        have HX := Lib.hid hbox
        have HBL := Lib.hid hbl
        have hlw := hbox.lt
        have HKI := Lib.hid (hkey.below hbl)
        clear hbox hbl
        have e0 := World.new_ne wr ⟨w.heap.size, 0, none⟩ q0
        have e1 := World.new_ne wr ⟨w.heap.size, 1, none⟩ q1
        have e2 := World.new_ne wr ⟨w.heap.size, 2, none⟩ q2
        have e3 := World.new_ne wr ⟨w.heap.size, 3, none⟩ q3
        have e4 := World.new_ne wr ⟨w.heap.size, 4, none⟩ q4
        have HTS := Lib.hid (tails_step (m := m) (k := j) (xs := xs) (d := d) (by omega))
        have HNS := Lib.hid (near_step (m := m) (key := key) (xs := xs) (k := j) (d := d) (z := z) HKV.out)
        have hs1 : s + nearN m key j (xs ++ [(d : Int)]) (z - unlike kv d) + ((tails m j xs (d + 1)).filter (nearP key xs.length z)).length = T := by
          have := hall.out
          rw [HTS.out, filter_app, HNS.out] at this
          omega
        have j0 : (0 : Int) ≤ (n : Int) := by omega
        have j1 : (n : Int) < (nk : Int) := by omega
        by_cases hkd : kv = (d : Int)
        · have hu : unlike kv d = 0 := by unfold unlike; rw [if_pos hkd]
          rw [hu] at hs1
          generalize hQ : nearN m key j (xs ++ [(d : Int)]) (z - 0) = Q at hs1
          rw [show z - 0 = z by omega] at hQ
          have HQ := Lib.hid hQ
          clear hQ hu
          have htd : ((d : Int) != kv) = false := by simp; exact hkd.symm
          clear hkd
          have HS1 := Lib.hid hs1
          have hsb : s ≤ T ∧ s + Q ≤ T := by omega
          clear hs1
          obtain ⟨hsb1, hsb2⟩ := hsb
          have g1 : IntKind.i64.wrap ((s : Int) + (Q : Int)) = (s : Int) + (Q : Int) := IntWalk.i64_in _ (by omega)
          have g2 : IntKind.i64.wrap (z - 1) = z - 1 := IntWalk.i64_in _ (by omega)
          go_wp2
          go_region_held3 (fun w' => w'.cell? ⟨w.heap.size, 0, none⟩ = some (.int .i64 m.C) ∧ w'.cell? ⟨w.heap.size, 1, none⟩ = some (.int .i64 m.D) ∧ w'.cell? ⟨w.heap.size, 2, none⟩ = some (.int .i64 m.S) ∧ w'.cell? ⟨w.heap.size, 3, none⟩ = some (.int .i64 m.M) ∧ w'.cell? ⟨w.heap.size, 4, none⟩ = some (.int .i64 m.L))
            (first
              | go_keep
              | exact ⟨(b2.cell (p := ⟨w.heap.size, 0, none⟩) hlw).trans q0, (b2.cell (p := ⟨w.heap.size, 1, none⟩) hlw).trans q1, (b2.cell (p := ⟨w.heap.size, 2, none⟩) hlw).trans q2, (b2.cell (p := ⟨w.heap.size, 3, none⟩) hlw).trans q3, (b2.cell (p := ⟨w.heap.size, 4, none⟩) hlw).trans q4⟩
              | exact XZ.out.cells
              | exact X5.out.cells
              | exact X6.out.cells)
            (first
              | (go_at_call 115; refine (l01Own_any A n c xs _ (ints_drewN (hI.more (Nat.le_of_lt hlw)) 1) (by omega) HA.out).mono ?_; rintro e w2 ⟨v2, rfl, r2, b2⟩; have X2 := Lib.hid ((HX.out.drewN 1).on b2))
              | (refine step_append_lies _ (by rfl) _ _ _ (by rfl) wr.heap.size 2 i0 _ 1 8 Try.underlying42 HF.out.1 HF.out.2.1 HF.out.2.2.1 HF.out.2.2.2 rfl (by omega) v2 n (intsV xs) (by rfl) (r2.alloc _) ⟨w2.heap.size, 0, none⟩ 1 1 [.int .i64 (d : Int)] (by rfl) (by rfl) (World.news_of_block (cs := #[.int .i64 (d : Int)]) (t := 2) (fr := (0, 0)) (heap_alloc_new w2 _)) (by simp [Value.oneCell']) (by omega) (by unfold maxLen; omega) (by omega) (by have := b2.size; simp at this ⊢; omega) (w2.heap.size + 1) (by simp) ?_; intro gg cap w5 hown1 hgrow hat hlt3; have X5 := Lib.hid ((X2.out.alloc (.cells #[.int .i64 (d : Int)] 2)).grown hgrow (by intro e; have := rowBase r2 _ e.symm; simp at this; omega)); have B5 := Lib.hid ((((below_drewN HBL.out 1).trans (b2.mono HBL.out.size)).alloc (by have := b2.size; simp at this; omega) (.cells #[.int .i64 (d : Int)] 2)).grown hgrow (by have := b2.size; simp at this ⊢; omega) (fun q e => by have := rowBase r2 q e; simp at this; omega)))
              | (go_at_call 116; have hrow5 := hown1; rw [intsV_snoc] at hrow5; obtain ⟨ho5, hc5, hm5⟩ := rowIntsAt hrow5 (by rw [List.length_append, HL.out]; rfl); refine (HI.out j rfl (some ⟨gg, 0, none⟩) (n + 1) cap (xs ++ [(d : Int)]) z w5 (by have := HNK.out; omega) ((hkey.below B5.out).more B5.out.size) ho5.ints hc5 hm5 (by simp) (depth_snoc HD.out hlt) (by omega) (by omega)).mono ?_; rw [HQ.out]; rintro e w6 ⟨rfl, b6⟩; have X6 := Lib.hid (X5.out.on b6))
              | (go_at_call 115; refine (l01Own_any A n c xs _ (ints_drewN (hI.alloc (Nat.le_of_lt hlw) (.cells #[.int .i64 (d : Int)] 2)) 1) (by omega) HA.out).mono ?_; rintro e wz ⟨vz, rfl, rz, bz⟩; have XZ := Lib.hid (((HX.out.alloc (.cells #[.int .i64 (d : Int)] 2)).drewN 1).on bz))
              | (refine step_append_lies _ (by rfl) _ _ _ (by rfl) wr.heap.size 2 i0 _ 1 8 Try.underlying42 HF.out.1 HF.out.2.1 HF.out.2.2.1 HF.out.2.2.2 rfl (by omega) vz n (intsV xs) (by rfl) (rowMore rz (by simp)) ⟨wr.heap.size, 0, none⟩ 1 1 [.int .i64 (d : Int)] (by rfl) (by rfl) (news_behind bz) (by simp [Value.oneCell']) (by omega) (by unfold maxLen; omega) (by omega) (by have := bz.size; simp at this ⊢; omega) wz.heap.size rfl ?_; intro gg cap w5 hown1 hgrow hat hlt3; have X5 := Lib.hid (XZ.out.grown hgrow (by intro e; have := rowBase rz _ e.symm; simp at this; omega)); have B5 := Lib.hid (((below_drewN (HBL.out.alloc HBL.out.size (.cells #[.int .i64 (d : Int)] 2)) 1).trans (bz.mono (by simp; omega))).grown hgrow (by have := bz.size; simp at this ⊢; omega) (fun q e => by have := rowBase rz q e; simp at this; omega))))
          all_goals
            have B6 := Lib.hid (B5.out.trans (b6.mono (by have := B5.out.size; exact this)))
            clear q0 q1 q2 q3 q4 e0 e1 e2 e3 e4 hown1 hgrow hat hlt3 b6 X5 B5 g1 j0 j1
            go_wp2
            go_roundw
            case rel => exact ⟨d + 1, s + Q, by go_num, by go_num, by omega, Lib.hid HS1.out, X6.out, B6.out⟩
            case measure => simp [intOf]; omega
        · have hu : unlike kv d = 1 := by unfold unlike; rw [if_neg hkd]
          rw [hu] at hs1
          generalize hQ : nearN m key j (xs ++ [(d : Int)]) (z - 1) = Q at hs1
          have HQ := Lib.hid hQ
          clear hQ hu
          have htd : ((d : Int) != kv) = true := by simp; exact fun e => hkd e.symm
          clear hkd
          have HS1 := Lib.hid hs1
          have hsb : s ≤ T ∧ s + Q ≤ T := by omega
          clear hs1
          obtain ⟨hsb1, hsb2⟩ := hsb
          have g1 : IntKind.i64.wrap ((s : Int) + (Q : Int)) = (s : Int) + (Q : Int) := IntWalk.i64_in _ (by omega)
          have g2 : IntKind.i64.wrap (z - 1) = z - 1 := IntWalk.i64_in _ (by omega)
          go_wp2
          go_region_held3 (fun w' => w'.cell? ⟨w.heap.size, 0, none⟩ = some (.int .i64 m.C) ∧ w'.cell? ⟨w.heap.size, 1, none⟩ = some (.int .i64 m.D) ∧ w'.cell? ⟨w.heap.size, 2, none⟩ = some (.int .i64 m.S) ∧ w'.cell? ⟨w.heap.size, 3, none⟩ = some (.int .i64 m.M) ∧ w'.cell? ⟨w.heap.size, 4, none⟩ = some (.int .i64 m.L))
            (first
              | go_keep
              | exact ⟨(b2.cell (p := ⟨w.heap.size, 0, none⟩) hlw).trans q0, (b2.cell (p := ⟨w.heap.size, 1, none⟩) hlw).trans q1, (b2.cell (p := ⟨w.heap.size, 2, none⟩) hlw).trans q2, (b2.cell (p := ⟨w.heap.size, 3, none⟩) hlw).trans q3, (b2.cell (p := ⟨w.heap.size, 4, none⟩) hlw).trans q4⟩
              | exact XZ.out.cells
              | exact X5.out.cells
              | exact X6.out.cells)
            (first
              | (go_at_call 115; refine (l01Own_any A n c xs _ (ints_drewN (hI.more (Nat.le_of_lt hlw)) 1) (by omega) HA.out).mono ?_; rintro e w2 ⟨v2, rfl, r2, b2⟩; have X2 := Lib.hid ((HX.out.drewN 1).on b2))
              | (refine step_append_lies _ (by rfl) _ _ _ (by rfl) wr.heap.size 2 i0 _ 1 8 Try.underlying42 HF.out.1 HF.out.2.1 HF.out.2.2.1 HF.out.2.2.2 rfl (by omega) v2 n (intsV xs) (by rfl) (r2.alloc _) ⟨w2.heap.size, 0, none⟩ 1 1 [.int .i64 (d : Int)] (by rfl) (by rfl) (World.news_of_block (cs := #[.int .i64 (d : Int)]) (t := 2) (fr := (0, 0)) (heap_alloc_new w2 _)) (by simp [Value.oneCell']) (by omega) (by unfold maxLen; omega) (by omega) (by have := b2.size; simp at this ⊢; omega) (w2.heap.size + 1) (by simp) ?_; intro gg cap w5 hown1 hgrow hat hlt3; have X5 := Lib.hid ((X2.out.alloc (.cells #[.int .i64 (d : Int)] 2)).grown hgrow (by intro e; have := rowBase r2 _ e.symm; simp at this; omega)); have B5 := Lib.hid ((((below_drewN HBL.out 1).trans (b2.mono HBL.out.size)).alloc (by have := b2.size; simp at this; omega) (.cells #[.int .i64 (d : Int)] 2)).grown hgrow (by have := b2.size; simp at this ⊢; omega) (fun q e => by have := rowBase r2 q e; simp at this; omega)))
              | (go_at_call 116; have hrow5 := hown1; rw [intsV_snoc] at hrow5; obtain ⟨ho5, hc5, hm5⟩ := rowIntsAt hrow5 (by rw [List.length_append, HL.out]; rfl); refine (HI.out j rfl (some ⟨gg, 0, none⟩) (n + 1) cap (xs ++ [(d : Int)]) (z - 1) w5 (by have := HNK.out; omega) ((hkey.below B5.out).more B5.out.size) ho5.ints hc5 hm5 (by simp) (depth_snoc HD.out hlt) (by omega) (by omega)).mono ?_; rw [HQ.out]; rintro e w6 ⟨rfl, b6⟩; have X6 := Lib.hid (X5.out.on b6))
              | (go_at_call 115; refine (l01Own_any A n c xs _ (ints_drewN (hI.alloc (Nat.le_of_lt hlw) (.cells #[.int .i64 (d : Int)] 2)) 1) (by omega) HA.out).mono ?_; rintro e wz ⟨vz, rfl, rz, bz⟩; have XZ := Lib.hid (((HX.out.alloc (.cells #[.int .i64 (d : Int)] 2)).drewN 1).on bz))
              | (refine step_append_lies _ (by rfl) _ _ _ (by rfl) wr.heap.size 2 i0 _ 1 8 Try.underlying42 HF.out.1 HF.out.2.1 HF.out.2.2.1 HF.out.2.2.2 rfl (by omega) vz n (intsV xs) (by rfl) (rowMore rz (by simp)) ⟨wr.heap.size, 0, none⟩ 1 1 [.int .i64 (d : Int)] (by rfl) (by rfl) (news_behind bz) (by simp [Value.oneCell']) (by omega) (by unfold maxLen; omega) (by omega) (by have := bz.size; simp at this ⊢; omega) wz.heap.size rfl ?_; intro gg cap w5 hown1 hgrow hat hlt3; have X5 := Lib.hid (XZ.out.grown hgrow (by intro e; have := rowBase rz _ e.symm; simp at this; omega)); have B5 := Lib.hid (((below_drewN (HBL.out.alloc HBL.out.size (.cells #[.int .i64 (d : Int)] 2)) 1).trans (bz.mono (by simp; omega))).grown hgrow (by have := bz.size; simp at this ⊢; omega) (fun q e => by have := rowBase rz q e; simp at this; omega))))
          all_goals
            have B6 := Lib.hid (B5.out.trans (b6.mono (by have := B5.out.size; exact this)))
            clear q0 q1 q2 q3 q4 e0 e1 e2 e3 e4 hown1 hgrow hat hlt3 b6 X5 B5 g1 j0 j1
            go_wp2
            go_roundw
            case rel => exact ⟨d + 1, s + Q, by go_num, by go_num, by omega, Lib.hid HS1.out, X6.out, B6.out⟩
            case measure => simp [intOf]; omega
      · have HE : Hid (s = T) := Lib.hid (by
          have h1 := hall.out
          rw [tails_end (m := m) (k := j) (xs := xs) (d := d) (by omega)] at h1
          simpa using h1)
        clear hall
        go_wp2
        go_ret
        exact ⟨ret_int (by rw [HE.out]), hbl⟩

theorem l03Near_any (m : Mk) (hm : m.ok = true) (key : List Int) (A' : Option Addr) (nk ck : Nat) (hkC : (nk : Int) = m.C) : ∀ k, NearAll m key A' nk ck k
  | 0 => l03Near_step m hm key A' nk ck hkC 0 (fun j h => by omega)
  | k + 1 => l03Near_step m hm key A' nk ck hkC (k + 1) (fun j h => by
    have e : k = j := by omega
    subst e
    exact l03Near_any m hm key A' nk ck hkC k)

end Go.Proofs.Ytbadahnhlehidaa

namespace Go.Proofs.Ytbadahnhlehidaa
open Go Go.RowKit
attribute [local go_sem] Oper.semAt_some

def knE (m : Mk) (xs : List Int) (z : Int) : Int := if ktE m xs = 0 then (if inB z 0 m.C then 0 else 2) else ktE m xs
def knV (m : Mk) (xs : List Int) (z : Int) : Int := if knE m xs z = 0 then (nearN m xs m.C.toNat [] z : Int) else 0
theorem kn_bad {m : Mk} {xs : List Int} {z : Int} (h : ktE m xs ≠ 0) : knE m xs z = ktE m xs ∧ knV m xs z = 0 := by
  have e : knE m xs z = ktE m xs := by unfold knE; rw [if_neg h]
  exact ⟨e, by unfold knV; rw [e, if_neg h]⟩
theorem kn_no {m : Mk} {xs : List Int} {z : Int} (h : ktE m xs = 0) (h2 : inB z 0 m.C = false) : knE m xs z = 2 ∧ knV m xs z = 0 := by
  have e : knE m xs z = 2 := by unfold knE; rw [if_pos h, h2]; rfl
  exact ⟨e, by unfold knV; rw [e, if_neg (by decide)]⟩
theorem kn_yes {m : Mk} {xs : List Int} {z : Int} (h : ktE m xs = 0) (h2 : inB z 0 m.C = true) : knE m xs z = 0 ∧ knV m xs z = (nearN m xs m.C.toNat [] z : Int) := by
  have e : knE m xs z = 0 := by unfold knE; rw [if_pos h, h2]; rfl
  exact ⟨e, by unfold knV; rw [e, if_pos rfl]⟩
theorem nearP_diff (xs y : List Int) (z : Int) : nearP xs 0 z y = decide (diffI xs y = z) := by
  unfold nearP restD diffI
  have : diffTo xs y 0 = 0 := rfl
  rw [this, Int.sub_zero]
def cntP (xs : List Int) (z : Int) (pre : List (List Int)) : Nat := (pre.filter (nearP xs 0 z)).length
theorem cntP_yes {xs y : List Int} {z : Int} {pre : List (List Int)} (h : diffI xs y = z) : cntP xs z (pre ++ [y]) = cntP xs z pre + 1 := by
  unfold cntP
  rw [filter_app, List.filter_cons_of_pos (by rw [nearP_diff]; exact decide_eq_true h)]; rfl
theorem cntP_no {xs y : List Int} {z : Int} {pre : List (List Int)} (h : ¬ diffI xs y = z) : cntP xs z (pre ++ [y]) = cntP xs z pre := by
  unfold cntP
  rw [filter_app, List.filter_cons_of_neg (by rw [nearP_diff]; simpa using h)]; rfl
theorem cntP_le (xs : List Int) (z : Int) (pre : List (List Int)) : cntP xs z pre ≤ pre.length := List.length_filter_le _ _
theorem among_len {m : Mk} {pre : List (List Int)} {x : List Int} (hm : m.ok = true) (h : Among m (pre ++ [x])) : pre.length < 262144 := by
  obtain ⟨R, e⟩ := h
  obtain ⟨m1, m2, m3, m4, _⟩ := Mk.ok_true hm
  have := Nat.le_trans (keys_count m4 m.C.toNat []) (pow8 (by omega))
  have e2 := congrArg List.length e
  simp only [List.length_append, List.length_cons, List.length_nil] at e2
  unfold allKeys at e2
  omega
theorem among_key {m : Mk} {pre : List (List Int)} {x : List Int} (hm : m.ok = true) (h : Among m (pre ++ [x])) : isKeyB m x = true := by
  obtain ⟨R, e⟩ := h
  exact all_are_keys hm (by rw [e]; simp)

set_option maxRecDepth 100000 in
set_option maxHeartbeats 4000000 in
theorem keysNear_any (m : Mk) (A : Option Addr) (n c : Nat) (xs : List Int) (z : Int) (w : World) (h : Ints w w.heap.size A n xs) (hn : n ≤ 1048576) :
    Calls Try.prog 67 #[.agg #[.int .i64 m.C, .int .i64 m.D, .int .i64 m.S, .int .i64 m.M, .int .i64 m.L], .slice A n c, .int .i64 z] w
      fun e w' => e = .returned (.tuple #[.int .i64 (knV m xs z), .int .i64 (knE m xs z)]) ∧ Below w.heap.size w w' := by
  obtain ⟨k0, k1, k2, k3, hs, b0⟩ := four w (.cells #[.int .i64 m.C, .int .i64 m.D, .int .i64 m.S, .int .i64 m.M, .int .i64 m.L] 29) (.cells #[.slice A n c] 42) (.cells #[.int .i64 z] 2) (.cells #[.slice A n c] 42)
  have hx : Boxed _ w.heap.size 29 m := k0
  obtain ⟨kc, _⟩ := cell_at k1
  obtain ⟨kz, _⟩ := cell_at k2
  have bb := (((Below.refl w.heap.size w).alloc (Nat.le_refl _) (.cells #[.int .i64 m.C, .int .i64 m.D, .int .i64 m.S, .int .i64 m.M, .int .i64 m.L] 29)).alloc (by simp) (.cells #[.slice A n c] 42)).alloc (by simp; omega) (.cells #[.int .i64 z] 2)
  have hl := Lists.one (c := c) 42 (h.on bb) hn
  simp only [World.size_alloc] at hl
  have kk := heap_alloc_new (w.alloc (.cells #[.int .i64 m.C, .int .i64 m.D, .int .i64 m.S, .int .i64 m.M, .int .i64 m.L] 29)) (.cells #[.slice A n c] 42)
  rw [World.size_alloc] at kk
  obtain ⟨gz, _⟩ := cell_at ((Below.heap_alloc _ (.cells #[.int .i64 z] 2) _ (heapLt kk)).trans kk)
  clear bb k0 k1 k2 k3 kk
  by_cases hz : ktE m xs = 0
  rotate_left
  · obtain ⟨e1, e2⟩ := kn_bad (z := z) hz
    rw [e1, e2]; clear e1 e2
    obtain ⟨v, hv⟩ : ∃ v, ktE m xs = v := ⟨_, rfl⟩
    rw [hv] at hz ⊢
    have HV := Lib.hid (show codeF m [xs] = v by rw [code_one]; exact hv)
    have hq : (v != 0) = true := by simpa using hz
    clear hz hv
    go_enter Try.func67, Try.ntmps67
    go_wp2_with fail
    refine (codeFor_any m _ 1 _ [xs] _ hl (by omega)).mono ?_
    rw [HV.out]
    rintro e w1 ⟨rfl, b3⟩
    have c1 := below_trans' b0 b3
    clear hl b0 b3 hx kc kz
    go_wp2
    go_ret2
    exact ⟨rfl, c1⟩
  obtain ⟨hm, hk⟩ := kt_key hz
  have HZ := Lib.hid (show codeF m [xs] = 0 by rw [code_one]; exact hz)
  obtain ⟨_, hlen, hdep, _⟩ := key_facts hk
  have hnC : n = m.C.toNat := by have := h.len; omega
  subst hnC
  have HM := Lib.hid (And.intro hm hk)
  obtain ⟨m1, m2, m3, m4, m5, m6, m7, m8, m9, m10, m11⟩ := Mk.ok_true hm
  rcases hin : inB z 0 m.C with _ | _
  · obtain ⟨e1, e2⟩ := kn_no hz hin
    rw [e1, e2]; clear e1 e2 hz hm hk hlen hdep
    go_enter Try.func67, Try.ntmps67
    go_wp2_with fail
    refine (codeFor_any m _ 1 _ [xs] _ hl (by omega)).mono ?_
    rw [HZ.out]
    rintro e w1 ⟨rfl, b3⟩
    have c1 := below_trans' b0 b3
    have x3 := hx.on b3
    have kz3 := (b3.cell (p := ⟨w.heap.size + 1 + 1, 0, none⟩) (by rw [hs]; show w.heap.size + 1 + 1 < _; omega)).trans kz
    obtain ⟨q0, q1, q2, q3, q4⟩ := x3.cells
    clear hl b0 b3 hx kc kz gz hs
    go_wp2_with fail
    clear q0 q1 q2 q3 q4 kz3
    refine (isWithin_at _ _ _ _ _ hin).mono ?_
    rintro e w' ⟨rfl, rfl⟩
    go_wp2
    go_ret2
    exact ⟨rfl, c1⟩
  obtain ⟨e1, e2⟩ := kn_yes hz hin
  rw [e1, e2]; clear e1 e2 hz hm hk hlen hdep
  refine (callsIn_wide (n := 9)).1 ?_
  refine callsIn_of_wp_marks Try.func67 rfl trivial ?_ rfl
  refine wpIn_wide.2 ?_
  simp only [Try.ntmps67, List.size_toArray, List.length_cons, List.length_nil, Nat.reduceAdd, Nat.reduceSub, Array.replicate_succ, Array.replicate_zero, List.push_toArray, List.append_toArray, List.nil_append, List.cons_append]
  go_wp2_with fail
  refine (codeFor_any m _ 1 _ [xs] _ hl (by omega)).mono ?_
  rw [HZ.out]
  rintro e w1 ⟨rfl, b3⟩
  have c1 := below_trans' b0 b3
  have hsz1 : w.heap.size + 4 ≤ w1.heap.size := by have := b3.size; rw [hs] at this; omega
  have x3 := hx.on b3
  have kz3 := (b3.cell (p := ⟨w.heap.size + 1 + 1, 0, none⟩) (by rw [hs]; show w.heap.size + 1 + 1 < _; omega)).trans kz
  have kc3 := (b3.cell (p := ⟨w.heap.size + 1, 0, none⟩) (by rw [hs]; show w.heap.size + 1 < _; omega)).trans kc
  obtain ⟨q0, q1, q2, q3, q4⟩ := x3.cells
  clear hl b0 b3 hx kc kz gz hs
  go_wp2_with fail
  refine (isWithin_at _ _ _ _ _ hin).mono ?_
  rintro e w' ⟨rfl, rfl⟩
  clear q0 q1 q2 q3 q4
  have x4 := x3.alloc (.cells #[.int .i64 0] 2)
  obtain ⟨q0, q1, q2, q3, q4⟩ := x4.cells
  go_wp2_with fail
  clear q0 q1 q2 q3 q4
  have hsz4 : (w1.alloc (.cells #[.int .i64 0] 2)).heap.size = w1.heap.size + 1 := World.size_alloc _ _
  have ki := cell_at (heap_alloc_new w1 (.cells #[.int .i64 0] 2))
  have bl := (Below.refl w1.heap.size w1).alloc (Nat.le_refl _) (.cells #[.int .i64 0] 2)
  have kc4 := (bl.cell (p := ⟨w.heap.size + 1, 0, none⟩) (by show w.heap.size + 1 < _; omega)).trans kc3
  have kz4 := (bl.cell (p := ⟨w.heap.size + 1 + 1, 0, none⟩) (by show w.heap.size + 1 + 1 < _; omega)).trans kz3
  have c4 := c1.alloc c1.size (.cells #[.int .i64 0] 2)
  refine (wpIn_wide (n := 9)).1 ?_
  refine wpIn_lent rfl (by omega) (gf := 112) (rb := #[.agg #[.int .i64 m.C, .int .i64 m.D, .int .i64 m.S, .int .i64 m.M, .int .i64 m.L]]) (lb := #[]) rfl trivial (enters_of Try.func112 (by kernel_rfl) rfl) (keys_lend m HM.out.1 8 _) (Below.refl _ _) rfl
    (fun pre W => (W.cell? ⟨w1.heap.size, 0, none⟩ = some (.int .i64 (cntP xs z pre : Int)) ∧ W.frozen? ⟨w1.heap.size, 0, none⟩ = false) ∧ W.cell? ⟨w.heap.size + 1, 0, none⟩ = some (.slice A m.C.toNat c) ∧ W.cell? ⟨w.heap.size + 1 + 1, 0, none⟩ = some (.int .i64 z) ∧ Below w.heap.size w W)
    (fun _ _ _ => False)
    ?_ ?_ ⟨⟨ki.1, ki.2⟩, kc4, kz4, c4⟩
    (fun v => { tmps := #[.agg #[.int .i64 m.C, .int .i64 m.D, .int .i64 m.S, .int .i64 m.M, .int .i64 m.L], .slice A m.C.toNat c, .int .i64 z, .pointer (some ⟨w.heap.size, 0, none⟩), .pointer (some ⟨w.heap.size + 1, 0, none⟩), .pointer (some ⟨w.heap.size + 1 + 1, 0, none⟩), .int .i64 0, .int .i64 0, .int .i64 0, .pointer (some ⟨w1.heap.size, 0, none⟩), v, .agg #[.int .i64 m.C, .int .i64 m.D, .int .i64 m.S, .int .i64 m.M, .int .i64 m.L], .slice A m.C.toNat c, .slice (some ⟨w.heap.size + 1 + 1 + 1, 0, none⟩) 1 1, .int .i64 0, .int .i64 0, .bool false, undef, .int .i64 z, .pointer (some ⟨w.heap.size, 0, none⟩), .int .i64 m.C, .bool true, .bool false, .agg #[.int .i64 m.C, .int .i64 m.D, .int .i64 m.S, .int .i64 m.M, .int .i64 m.L], .func (.func 112) #[.agg #[.int .i64 m.C, .int .i64 m.D, .int .i64 m.S, .int .i64 m.M, .int .i64 m.L]] #[], v, undef, undef, undef, undef, undef, undef, undef, undef], defers := [] }) ?assign ?body ?done ?stop
  · rintro s A1 C1 ⟨⟨h1, h2⟩, h3, h4, h5⟩ hb
    rw [hsz4] at hb
    exact ⟨⟨(hb.cell (p := ⟨w1.heap.size, 0, none⟩) (by simp)).trans h1, (hb.frozen (p := ⟨w1.heap.size, 0, none⟩) (by simp)).trans h2⟩, (hb.cell (p := ⟨w.heap.size + 1, 0, none⟩) (by show w.heap.size + 1 < _; omega)).trans h3, (hb.cell (p := ⟨w.heap.size + 1 + 1, 0, none⟩) (by show w.heap.size + 1 + 1 < _; omega)).trans h4, h5.trans (hb.mono (by omega))⟩
  · rintro cd s A1 o h
    exact h
  case assign =>
    intro l v W K hK
    gi_wp2
    exact hK
  case body =>
    rintro l pre x v W ⟨⟨h1, h2⟩, h3, h4, h5⟩ hM hsz hL
    rw [hsz4] at hsz hL ⊢
    obtain ⟨a, rfl, hown⟩ := hL
    have hlen := among_len HM.out.1 hM
    have hcl := cntP_le xs z pre
    have HI := Lib.hid ((h.below h5).more h5.size)
    have HXI := Lib.hid hown.ints
    have HB := Lib.hid h5
    have HC1 := Lib.hid h1
    have HC3 := Lib.hid h3
    have HC4 := Lib.hid h4
    have HF := Lib.hid h2
    have g1 : IntKind.i64.wrap ((cntP xs z pre : Int) + 1) = (cntP xs z pre : Int) + 1 := IntWalk.i64_in _ (by omega)
    have hmix : (Try.prog).follows .mixedOrders = true := by kernel_rfl
    clear h5 hown hM
    obtain ⟨u, hu⟩ : ∃ u, diffI xs x = u := ⟨_, rfl⟩
    by_cases hxe : u = z
    · have HE := Lib.hid (hu.trans hxe)
      have HU := Lib.hid hu
      have hd : (u == z) = true := by simpa using hxe
      clear hxe hu
      gi_wp2_with fail
      gi_region_with_o (first
        | (gi_at_call 117; refine (CallsIn.inRound l (callsIn_wide.2 (cutDifference_any _ _ _ _ _ xs x _ (ints_drewN HI.out 1) (ints_drewN HXI.out 1) hn))).mono ?_; rw [HU.out]; rintro e w2 ⟨rfl, q, rfl⟩)
        | (refine ⟨trivial, ?_⟩; gi_at_call 117; refine (CallsIn.inRound l (callsIn_wide.2 (cutDifference_any _ _ _ _ _ xs x _ (ints_drewN HI.out 1) (ints_drewN HXI.out 1) hn))).mono ?_; rw [HU.out]; rintro e w2 ⟨rfl, q, rfl⟩))
      all_goals
        gi_wp2
        refine ⟨(Above.drewN _ _ _).trans (Above.setCell _ _ (by simp)), ⟨⟨?_, ?_⟩, ?_, ?_, ?_⟩⟩
        · rw [cntP_yes HE.out]
          exact World.cell?_setCell_same _ _ _ HC1.out
        · rw [World.frozen?_setCell]; exact HF.out
        · exact (World.cell?_setCell_other _ _ _ _ (by intro e; have := congrArg Addr.block e; simp at this; omega)).trans HC3.out
        · exact (World.cell?_setCell_other _ _ _ _ (by intro e; have := congrArg Addr.block e; simp at this; omega)).trans HC4.out
        · exact (below_drewN HB.out _).setCell (p := ⟨w1.heap.size, 0, none⟩) (by show w.heap.size ≤ w1.heap.size; omega) _
    · have HE := Lib.hid (show ¬ diffI xs x = z by rw [hu]; exact hxe)
      have HU := Lib.hid hu
      have hd : (u == z) = false := by simpa using hxe
      clear hxe hu
      gi_wp2_with fail
      gi_region_with_o (first
        | (gi_at_call 117; refine (CallsIn.inRound l (callsIn_wide.2 (cutDifference_any _ _ _ _ _ xs x _ (ints_drewN HI.out 1) (ints_drewN HXI.out 1) hn))).mono ?_; rw [HU.out]; rintro e w2 ⟨rfl, q, rfl⟩)
        | (refine ⟨trivial, ?_⟩; gi_at_call 117; refine (CallsIn.inRound l (callsIn_wide.2 (cutDifference_any _ _ _ _ _ xs x _ (ints_drewN HI.out 1) (ints_drewN HXI.out 1) hn))).mono ?_; rw [HU.out]; rintro e w2 ⟨rfl, q, rfl⟩))
      all_goals
        gi_wp2
        exact ⟨Above.drewN _ _ _, ⟨⟨by rw [cntP_no HE.out]; exact HC1.out, HF.out⟩, HC3.out, HC4.out, below_drewN HB.out _⟩⟩
  case done =>
    rintro ys W rfl ⟨⟨hC, _⟩, _, _, hB⟩ hK
    have HE : Hid (cntP xs z (allKeys m) = nearN m xs m.C.toNat [] z) := Lib.hid rfl
    have HB := Lib.hid hB
    rw [hsz4] at hK ⊢
    clear hB
    go_wp2
    refine ⟨by simp, .inl ⟨_, _, rfl, run_takeDeferred hK, ?_⟩⟩
    refine ⟨_, results_tmp2 rfl _ _ _, ?_, HB.out.trans (below_putObj _ _ (by omega))⟩
    show Ending.returned (.tuple #[.int .i64 (cntP xs z (allKeys m) : Int), .int .i64 0]) = _
    rw [HE.out]
  case stop =>
    rintro cd pre W _ hh _
    exact hh.elim

theorem specKeysNear_any (m : Mk) (A : Option Addr) (n c : Nat) (xs : List Int) (z : Int) (w : World) (h : Ints w w.heap.size A n xs) (hn : n ≤ 1048576) (hc : n ≤ c) (hcm : c ≤ 9223372036854775807) :
    Calls Try.prog 66 #[.agg #[.int .i64 m.C, .int .i64 m.D, .int .i64 m.S, .int .i64 m.M, .int .i64 m.L], .slice A n c, .int .i64 z] w
      fun e w' => e = .returned (.tuple #[.int .i64 (knV m xs z), .int .i64 (knE m xs z)]) ∧ Below w.heap.size w w' := by
  have b0 := (Below.refl w.heap.size w).alloc (Nat.le_refl _) (.cells #[.int .i64 m.C, .int .i64 m.D, .int .i64 m.S, .int .i64 m.M, .int .i64 m.L] 29)
  have hx := Boxed.new w 29 m
  by_cases hz : ktE m xs = 0
  rotate_left
  · obtain ⟨e1, e2⟩ := kn_bad (z := z) hz
    rw [e1, e2]; clear e1 e2
    obtain ⟨v, hv⟩ : ∃ v, ktE m xs = v := ⟨_, rfl⟩
    rw [hv] at hz ⊢
    have HV := Lib.hid hv
    have hq : (v != 0) = true := by simpa using hz
    have hq2 : (v == 0) = false := by simpa using hz
    clear hz hv
    go_enter Try.func66, Try.ntmps66
    go_wp2_with fail
    refine (l02Code_any m A n c xs _ (h.on b0) hn hc hcm).mono ?_
    rw [HV.out]
    rintro e w1 ⟨rfl, b1⟩
    have c1 := below_trans' b0 b1
    clear b0 b1 hx
    go_wp2
    go_ret2
    exact ⟨rfl, c1⟩
  obtain ⟨hm, hk⟩ := kt_key hz
  have HZ := Lib.hid hz
  have HK := Lib.hid hk
  obtain ⟨_, hlen, hdep, _⟩ := key_facts hk
  have hnC : (n : Int) = m.C := by rw [← h.len]; exact hlen
  obtain ⟨m1, m2, m3, m4, m5, m6, m7, m8, m9, m10, m11⟩ := Mk.ok_true hm
  have HM := Lib.hid hm
  have HC := Lib.hid hnC
  rcases hin : inB z 0 m.C with _ | _
  · obtain ⟨e1, e2⟩ := kn_no hz hin
    rw [e1, e2]; clear e1 e2 hz hm hk hlen hdep
    go_enter Try.func66, Try.ntmps66
    go_wp2_with fail
    refine (l02Code_any m A n c xs _ (h.on b0) hn hc hcm).mono ?_
    rw [HZ.out]
    rintro e w1 ⟨rfl, b1⟩
    have c1 := below_trans' b0 b1
    have x1 := hx.on b1
    obtain ⟨q0, q1, q2, q3, q4⟩ := x1.cells
    clear b0 b1 hx x1
    go_wp2_with fail
    clear q0 q1 q2 q3 q4
    refine (l01In_at _ _ _ _ _ hin).mono ?_
    rintro e w' ⟨rfl, rfl⟩
    go_wp2
    go_ret2
    exact ⟨rfl, c1⟩
  obtain ⟨e1, e2⟩ := kn_yes hz hin
  rw [e1, e2]; clear e1 e2 hz hm hk hlen hdep
  obtain ⟨z0, z1⟩ := inB_true.1 hin
  have HNA := Lib.hid (l03Near_any m HM.out xs A n c HC.out n)
  go_enter Try.func66, Try.ntmps66
  go_wp2_with fail
  refine (l02Code_any m A n c xs _ (h.on b0) hn hc hcm).mono ?_
  rw [HZ.out]
  rintro e w1 ⟨rfl, b1⟩
  have c1 := below_trans' b0 b1
  have x1 := hx.on b1
  obtain ⟨q0, q1, q2, q3, q4⟩ := x1.cells
  clear b0 b1 hx
  go_wp2_with fail
  refine (l01In_at _ _ _ _ _ hin).mono ?_
  rintro e w' ⟨rfl, rfl⟩
  go_wp2_with fail
  clear q0 q1 q2 q3 q4
  refine (HNA.out none 0 0 [] z _ (by omega) (h.on c1) ⟨rfl, fun h => absurd h (by omega)⟩ (by omega) (by omega) (fun _ => by simp) rfl (by omega) (by omega)).mono ?_
  rintro e w2 ⟨rfl, b2⟩
  have c2 := below_trans' c1 b2
  have HE : Hid (nearN m xs n [] z = nearN m xs m.C.toNat [] z) := Lib.hid (by rw [show n = m.C.toNat by have := HC.out; omega])
  clear x1
  go_wp2
  go_ret2
  exact ⟨by rw [← HE.out]; rfl, c2⟩

end Go.Proofs.Ytbadahnhlehidaa
