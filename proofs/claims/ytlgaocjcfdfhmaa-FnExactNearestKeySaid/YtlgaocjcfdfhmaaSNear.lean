/- l03Near and KeysNear of the model. -/
import Derived.Test.YtlgaocjcfdfhmaaSRank
namespace Go.Proofs.Ytlgaocjcfdfhmaa
open Go Go.RowKit

/-- in how many places from i on two lists differ -/
def restD (key y : List Int) (i : Nat) : Int := diffTo key y key.length - diffTo key y i
def nearP (key : List Int) (i : Nat) (z : Int) (y : List Int) : Bool := decide (restD key y i = z)
def nearN (m : Mk) (key : List Int) (k : Nat) (xs : List Int) (z : Int) : Nat := ((keysFrom m k xs).filter (nearP key xs.length z)).length
theorem diffTo_mono (xs ys : List Int) {a b : Nat} (h : a ≤ b) : diffTo xs ys a ≤ diffTo xs ys b := sumN_mono (fun _ => (unlike_le _ _).1) h
theorem near_le (m : Mk) (key : List Int) (k : Nat) (xs : List Int) (z : Int) : nearN m key k xs z ≤ (keysFrom m k xs).length := List.length_filter_le _ _
theorem near_stop {m : Mk} {key : List Int} {k : Nat} {xs : List Int} {z : Int} (h : beginsB m xs = false) : nearN m key k xs z = 0 := by unfold nearN; rw [keys_stop h]; rfl
theorem near_neg {m : Mk} {key : List Int} {k : Nat} {xs : List Int} {z : Int} (hl : xs.length ≤ key.length) (h : z < 0) : nearN m key k xs z = 0 := by
  unfold nearN
  rw [List.length_eq_zero_iff, List.filter_eq_nil_iff]
  intro y _
  unfold nearP restD
  have := diffTo_mono key y hl
  simp; omega
theorem near_last {m : Mk} {key xs : List Int} {z : Int} (hl : xs.length = key.length) (hb : beginsB m xs = true) (hz : 0 ≤ z) :
    nearN m key 0 xs z = if 0 < z ∨ (kinds xs : Int) < m.L then 0 else 1 := by
  unfold nearN
  have h0 : restD key xs xs.length = 0 := by unfold restD; rw [hl]; omega
  by_cases hk : (kinds xs : Int) < m.L
  · rw [keys_zero_no hb (by omega), if_pos (Or.inr hk)]; rfl
  · rw [keys_zero_yes hb (by omega)]
    by_cases hz2 : 0 < z
    · rw [if_pos (Or.inl hz2), List.filter_cons_of_neg (by unfold nearP; rw [h0]; simp; omega)]; rfl
    · rw [if_neg (by omega), List.filter_cons_of_pos (by unfold nearP; rw [h0]; simp; omega)]; rfl
/-- the step: the next cut is d -/
theorem near_step {m : Mk} {key xs : List Int} {k : Nat} {d : Nat} {z v : Int} (hv : key[xs.length]? = some v) :
    ((keysFrom m k (xs ++ [(d : Int)])).filter (nearP key xs.length z)).length = nearN m key k (xs ++ [(d : Int)]) (z - unlike v d) := by
  unfold nearN
  congr 1
  refine List.filter_congr (fun y hy => ?_)
  obtain ⟨h1, h2, _⟩ := keys_facts hy
  have h3 : y.getD xs.length 0 = (d : Int) := by
    have h4 : y[xs.length]? = (y.take (xs ++ [(d : Int)]).length)[xs.length]? := by
      rw [List.getElem?_take_of_lt (by rw [List.length_append]; simp)]
    rw [List.getD_eq_getElem?_getD, h4, h2, List.getElem?_append_right (Nat.le_refl _)]
    simp
  have h5 : diffTo key y (xs.length + 1) = diffTo key y xs.length + unlike v d := by
    show diffTo key y xs.length + unlike (key.getD xs.length 0) (y.getD xs.length 0) = _
    rw [h3, getD_at hv]
  unfold nearP restD
  rw [List.length_append, List.length_singleton, h5]
  congr 1
  exact propext ⟨fun h => by omega, fun h => by omega⟩
theorem filter_app {P : List Int → Bool} {A B : List (List Int)} : ((A ++ B).filter P).length = (A.filter P).length + (B.filter P).length := by rw [List.filter_append, List.length_append]

def NearAll (m : Mk) (key : List Int) (A' : Option Addr) (nk ck : Nat) (k : Nat) : Prop :=
  ∀ (A : Option Addr) (n c : Nat) (xs : List Int) (z : Int) (w : World), n + k = nk → Ints w w.heap.size A' nk key → Ints w w.heap.size A n xs → n ≤ c → c ≤ 9223372036854775807 → (A = none → n = 0 ∧ c = 0) → allIn 0 (m.D - 1) xs = true → -1 ≤ z → z ≤ 1000 →
    Calls Try.prog 72 #[.agg #[.int .i64 m.C, .int .i64 m.D, .int .i64 m.S, .int .i64 m.M, .int .i64 m.L], .slice A' nk ck, .slice A n c, .int .i64 z] w fun e w' => e = .returned (.int .i64 (nearN m key k xs z : Int)) ∧ Below w.heap.size w w'

set_option maxRecDepth 100000 in
set_option maxHeartbeats 16000000 in
theorem l03Near_step (m : Mk) (hm : m.ok = true) (key : List Int) (A' : Option Addr) (nk ck : Nat) (hkC : (nk : Int) = m.C) (k : Nat) (IH : ∀ j, k = j + 1 → NearAll m key A' nk ck j) : NearAll m key A' nk ck k := by
  intro A n c xs z w hnk hkey h hc hcm hA hd hz1 hz2
  obtain ⟨m1, m2, m3, m4, m5, m6, m7, m8, m9, m10, m11⟩ := Mk.ok_true hm
  have HM := Lib.hid hm
  have HNK := Lib.hid hnk
  have hnk6 : nk ≤ 6 := by omega
  have hn6 : n ≤ 6 := by omega
  have hk6 : k ≤ 6 := by omega
  have HD := Lib.hid hd
  have HI := Lib.hid IH
  have HA := Lib.hid hA
  have HL := Lib.hid h.len
  have HLK := Lib.hid hkey.len
  have HKC := Lib.hid hkC
  clear hm hnk hd IH hA hkC
  have b0 := (Below.refl w.heap.size w).alloc (Nat.le_refl _) (.cells #[.int .i64 m.C, .int .i64 m.D, .int .i64 m.S, .int .i64 m.M, .int .i64 m.L] 25)
  have hx := Boxed.new w 25 m
  have hTb : nearN m key k xs z ≤ 262144 := Nat.le_trans (near_le m key k xs z) (Nat.le_trans (keys_count m4 k xs) (pow8 hk6))
  generalize hT : nearN m key k xs z = T at hTb ⊢
  have HT := Lib.hid hT
  clear hT
  obtain ⟨i0, hi, hz0', hz1', hz2'⟩ := info_parts Try.info2'
  have HF := Lib.hid (And.intro hi (And.intro hz0' (And.intro hz1' hz2')))
  clear hi hz0' hz1' hz2'
  rcases hb : beginsB m xs with _ | _
  · have HE : Hid (T = 0) := Lib.hid (by rw [← HT.out, near_stop hb])
    go_enter Try.func72, Try.ntmps72
    go_wp2_with fail
    refine (l02Begins_any m _ _ _ xs _ (h.on b0) (by omega) HM.out HD.out).mono ?_
    rw [hb]
    rintro e w1 ⟨rfl, b1⟩
    have c1 := below_trans' b0 b1
    clear b0 b1 hb hx
    go_wp2
    go_ret
    exact ⟨ret_int (by rw [HE.out]; rfl), c1⟩
  have HB := Lib.hid hb
  clear hb
  by_cases hneg : z < 0
  · have HE : Hid (T = 0) := Lib.hid (by rw [← HT.out, near_neg (by rw [HL.out, HLK.out]; have := HNK.out; omega) hneg])
    go_enter Try.func72, Try.ntmps72
    go_wp2_with fail
    refine (l02Begins_any m _ _ _ xs _ (h.on b0) (by omega) HM.out HD.out).mono ?_
    rw [HB.out]
    rintro e w1 ⟨rfl, b1⟩
    have c1 := below_trans' b0 b1
    clear b0 b1 hx
    go_wp2
    go_ret
    exact ⟨ret_int (by rw [HE.out]; rfl), c1⟩
  have hz0 : 0 ≤ z := by omega
  have dneg : decide (z < 0) = false := decide_eq_false hneg
  rcases k with _ | j
  · have htest : ((n : Int) == (nk : Int)) = true := by have := HNK.out; simp; omega
    have HN := Lib.hid (near_last (m := m) (key := key) (xs := xs) (z := z) (by rw [HL.out, HLK.out]; have := HNK.out; omega) HB.out hz0)
    by_cases hzp : 0 < z
    · have HE : Hid (T = 0) := Lib.hid (by rw [← HT.out, HN.out, if_pos (Or.inl hzp)])
      have dz : decide (0 < z) = true := decide_eq_true hzp
      go_enter Try.func72, Try.ntmps72
      go_wp2_with fail
      refine (l02Begins_any m _ _ _ xs _ (h.on b0) (by omega) HM.out HD.out).mono ?_
      rw [HB.out]
      rintro e w1 ⟨rfl, b1⟩
      have c1 := below_trans' b0 b1
      have x1 := hx.on b1
      obtain ⟨q0, q1, q2, q3, q4⟩ := x1.cells
      clear b0 b1 hx x1
      go_wp2
      go_quiet (fail)
      go_wp2
      go_ret
      exact ⟨ret_int (by rw [HE.out]; rfl), below_drewN c1 _⟩
    · have dz : decide (0 < z) = false := decide_eq_false hzp
      by_cases hL : (kinds xs : Int) < m.L
      · have dL : decide ((kinds xs : Int) < m.L) = true := by simpa using hL
        have HE : Hid (T = 0) := Lib.hid (by rw [← HT.out, HN.out, if_pos (Or.inr hL)])
        clear hL
        go_enter Try.func72, Try.ntmps72
        go_wp2_with fail
        refine (l02Begins_any m _ _ _ xs _ (h.on b0) (by omega) HM.out HD.out).mono ?_
        rw [HB.out]
        rintro e w1 ⟨rfl, b1⟩
        have c1 := below_trans' b0 b1
        have x1 := hx.on b1
        have hi1 := h.on c1
        obtain ⟨q0, q1, q2, q3, q4⟩ := x1.cells
        clear b0 b1 hx x1
        go_wp2
        go_quiet ((go_at_call 87; exact quiet_on (l02Kinds_any _ _ _ xs _ (ints_drewN hi1 _) (by omega) hc hcm)))
        go_wp2
        go_ret
        exact ⟨ret_int (by rw [HE.out]; rfl), below_drewN c1 _⟩
      · have dL : decide ((kinds xs : Int) < m.L) = false := by simpa using hL
        have HE : Hid (T = 1) := Lib.hid (by rw [← HT.out, HN.out, if_neg (by omega)])
        clear hL
        go_enter Try.func72, Try.ntmps72
        go_wp2_with fail
        refine (l02Begins_any m _ _ _ xs _ (h.on b0) (by omega) HM.out HD.out).mono ?_
        rw [HB.out]
        rintro e w1 ⟨rfl, b1⟩
        have c1 := below_trans' b0 b1
        have x1 := hx.on b1
        have hi1 := h.on c1
        obtain ⟨q0, q1, q2, q3, q4⟩ := x1.cells
        clear b0 b1 hx x1
        go_wp2
        go_quiet ((go_at_call 87; exact quiet_on (l02Kinds_any _ _ _ xs _ (ints_drewN hi1 _) (by omega) hc hcm)))
        go_wp2
        go_ret
        exact ⟨ret_int (by rw [HE.out]; rfl), below_drewN c1 _⟩
  · have htest : ((n : Int) == (nk : Int)) = false := by have := HNK.out; simp; omega
    have hnlt : n < nk := by have := HNK.out; omega
    have HS := Lib.hid (keys_succ (k := j) HB.out)
    obtain ⟨adk, kv, rfl, habk, hkv, hck1⟩ := hkey.at_ hnlt
    have HKV := Lib.hid (show key[xs.length]? = some kv by rw [HL.out]; exact hkv)
    clear hkv
    go_enter Try.func72, Try.ntmps72
    go_wp2_with fail
    refine (l02Begins_any m _ _ _ xs _ (h.on b0) (by omega) HM.out HD.out).mono ?_
    rw [HB.out]
    rintro e w1 ⟨rfl, b1⟩
    have c1 := below_trans' b0 b1
    have x1 := hx.on b1
    obtain ⟨q0, q1, q2, q3, q4⟩ := x1.cells
    clear b0 b1 hx
    go_wp2
    clear q0 q1 q2 q3 q4
    go_loopw [9, 10] (fun t x wr => ∃ d s : Nat, x = .int .i64 d ∧ t = .int .i64 s ∧ d ≤ 8 ∧ Hid (s + ((tails m j xs d).filter (nearP key xs.length z)).length = T) ∧ Boxed wr w.heap.size 25 m ∧ Below w.heap.size w wr) (fun _ x _ => 9 - (intOf x).toNat)
    case atStart => exact ⟨0, 0, rfl, rfl, by omega, Lib.hid (by rw [← HT.out]; unfold nearN; rw [HS.out]; omega), x1, c1⟩
    case round =>
      obtain ⟨d, s, rfl, rfl, hd8, hall, hbox, hbl⟩ := hrel
      clear x1 c1
      obtain ⟨q0, q1, q2, q3, q4⟩ := hbox.cells
      have hsz := hbl.size
      by_cases hlt : (d : Int) < m.D
      · have hI := h.below hbl
        have hck2 := (hbl.cell (p := adk.add n) (by rw [block_of_add]; exact habk)).trans hck1
        have HX := Lib.hid hbox
        have HBL := Lib.hid hbl
        have hlw := hbox.lt
        have HKI := Lib.hid (hkey.below hbl)
        clear hbox hbl
        have e0 := World.new_ne wr ⟨w.heap.size, 0, none⟩ q0
        have e1 := World.new_ne wr ⟨w.heap.size, 1, none⟩ q1
        have e2 := World.new_ne wr ⟨w.heap.size, 2, none⟩ q2
        have e3 := World.new_ne wr ⟨w.heap.size, 3, none⟩ q3
        have e4 := World.new_ne wr ⟨w.heap.size, 4, none⟩ q4
        have HTS := Lib.hid (tails_step (m := m) (k := j) (xs := xs) (d := d) (by omega))
        have HNS := Lib.hid (near_step (m := m) (key := key) (xs := xs) (k := j) (d := d) (z := z) HKV.out)
        have hs1 : s + nearN m key j (xs ++ [(d : Int)]) (z - unlike kv d) + ((tails m j xs (d + 1)).filter (nearP key xs.length z)).length = T := by
          have := hall.out
          rw [HTS.out, filter_app, HNS.out] at this
          omega
        have j0 : (0 : Int) ≤ (n : Int) := by omega
        have j1 : (n : Int) < (nk : Int) := by omega
        by_cases hkd : kv = (d : Int)
        · have hu : unlike kv d = 0 := by unfold unlike; rw [if_pos hkd]
          rw [hu] at hs1
          generalize hQ : nearN m key j (xs ++ [(d : Int)]) (z - 0) = Q at hs1
          rw [show z - 0 = z by omega] at hQ
          have HQ := Lib.hid hQ
          clear hQ hu
          have htd : ((d : Int) != kv) = false := by simp; exact hkd.symm
          clear hkd
          have HS1 := Lib.hid hs1
          have hsb : s ≤ T ∧ s + Q ≤ T := by omega
          clear hs1
          obtain ⟨hsb1, hsb2⟩ := hsb
          have g1 : IntKind.i64.wrap ((s : Int) + (Q : Int)) = (s : Int) + (Q : Int) := IntWalk.i64_in _ (by omega)
          have g2 : IntKind.i64.wrap (z - 1) = z - 1 := IntWalk.i64_in _ (by omega)
          go_wp2
          go_region_held3 (fun w' => w'.cell? ⟨w.heap.size, 0, none⟩ = some (.int .i64 m.C) ∧ w'.cell? ⟨w.heap.size, 1, none⟩ = some (.int .i64 m.D) ∧ w'.cell? ⟨w.heap.size, 2, none⟩ = some (.int .i64 m.S) ∧ w'.cell? ⟨w.heap.size, 3, none⟩ = some (.int .i64 m.M) ∧ w'.cell? ⟨w.heap.size, 4, none⟩ = some (.int .i64 m.L))
            (first
              | go_keep
              | exact ⟨(b2.cell (p := ⟨w.heap.size, 0, none⟩) hlw).trans q0, (b2.cell (p := ⟨w.heap.size, 1, none⟩) hlw).trans q1, (b2.cell (p := ⟨w.heap.size, 2, none⟩) hlw).trans q2, (b2.cell (p := ⟨w.heap.size, 3, none⟩) hlw).trans q3, (b2.cell (p := ⟨w.heap.size, 4, none⟩) hlw).trans q4⟩
              | exact XZ.out.cells
              | exact X5.out.cells
              | exact X6.out.cells)
            (first
              | (go_at_call 60; refine (l01Own_any A n c xs _ (ints_drewN (hI.more (Nat.le_of_lt hlw)) 1) (by omega) HA.out).mono ?_; rintro e w2 ⟨v2, rfl, r2, b2⟩; have X2 := Lib.hid ((HX.out.drewN 1).on b2))
              | (refine step_append_lies _ (by rfl) _ _ _ (by rfl) wr.heap.size 2 i0 _ 1 8 Try.underlying26 HF.out.1 HF.out.2.1 HF.out.2.2.1 HF.out.2.2.2 rfl (by omega) v2 n (intsV xs) (by rfl) (r2.alloc _) ⟨w2.heap.size, 0, none⟩ 1 1 [.int .i64 (d : Int)] (by rfl) (by rfl) (World.news_of_block (cs := #[.int .i64 (d : Int)]) (t := 2) (fr := (0, 0)) (heap_alloc_new w2 _)) (by simp [Value.oneCell']) (by omega) (by unfold maxLen; omega) (by omega) (by have := b2.size; simp at this ⊢; omega) (w2.heap.size + 1) (by simp) ?_; intro gg cap w5 hown1 hgrow hat hlt3; have X5 := Lib.hid ((X2.out.alloc (.cells #[.int .i64 (d : Int)] 2)).grown hgrow (by intro e; have := rowBase r2 _ e.symm; simp at this; omega)); have B5 := Lib.hid ((((below_drewN HBL.out 1).trans (b2.mono HBL.out.size)).alloc (by have := b2.size; simp at this; omega) (.cells #[.int .i64 (d : Int)] 2)).grown hgrow (by have := b2.size; simp at this ⊢; omega) (fun q e => by have := rowBase r2 q e; simp at this; omega)))
              | (go_at_call 72; have hrow5 := hown1; rw [intsV_snoc] at hrow5; obtain ⟨ho5, hc5, hm5⟩ := rowIntsAt hrow5 (by rw [List.length_append, HL.out]; rfl); refine (HI.out j rfl (some ⟨gg, 0, none⟩) (n + 1) cap (xs ++ [(d : Int)]) z w5 (by have := HNK.out; omega) ((hkey.below B5.out).more B5.out.size) ho5.ints hc5 hm5 (by simp) (depth_snoc HD.out hlt) (by omega) (by omega)).mono ?_; rw [HQ.out]; rintro e w6 ⟨rfl, b6⟩; have X6 := Lib.hid (X5.out.on b6))
              | (go_at_call 60; refine (l01Own_any A n c xs _ (ints_drewN (hI.alloc (Nat.le_of_lt hlw) (.cells #[.int .i64 (d : Int)] 2)) 1) (by omega) HA.out).mono ?_; rintro e wz ⟨vz, rfl, rz, bz⟩; have XZ := Lib.hid (((HX.out.alloc (.cells #[.int .i64 (d : Int)] 2)).drewN 1).on bz))
              | (refine step_append_lies _ (by rfl) _ _ _ (by rfl) wr.heap.size 2 i0 _ 1 8 Try.underlying26 HF.out.1 HF.out.2.1 HF.out.2.2.1 HF.out.2.2.2 rfl (by omega) vz n (intsV xs) (by rfl) (rowMore rz (by simp)) ⟨wr.heap.size, 0, none⟩ 1 1 [.int .i64 (d : Int)] (by rfl) (by rfl) (news_behind bz) (by simp [Value.oneCell']) (by omega) (by unfold maxLen; omega) (by omega) (by have := bz.size; simp at this ⊢; omega) wz.heap.size rfl ?_; intro gg cap w5 hown1 hgrow hat hlt3; have X5 := Lib.hid (XZ.out.grown hgrow (by intro e; have := rowBase rz _ e.symm; simp at this; omega)); have B5 := Lib.hid (((below_drewN (HBL.out.alloc HBL.out.size (.cells #[.int .i64 (d : Int)] 2)) 1).trans (bz.mono (by simp; omega))).grown hgrow (by have := bz.size; simp at this ⊢; omega) (fun q e => by have := rowBase rz q e; simp at this; omega))))
          all_goals
            have B6 := Lib.hid (B5.out.trans (b6.mono (by have := B5.out.size; exact this)))
            clear q0 q1 q2 q3 q4 e0 e1 e2 e3 e4 hown1 hgrow hat hlt3 b6 X5 B5 g1 j0 j1
            go_wp2
            go_roundw
            case rel => exact ⟨d + 1, s + Q, by go_num, by go_num, by omega, Lib.hid HS1.out, X6.out, B6.out⟩
            case measure => simp [intOf]; omega
        · have hu : unlike kv d = 1 := by unfold unlike; rw [if_neg hkd]
          rw [hu] at hs1
          generalize hQ : nearN m key j (xs ++ [(d : Int)]) (z - 1) = Q at hs1
          have HQ := Lib.hid hQ
          clear hQ hu
          have htd : ((d : Int) != kv) = true := by simp; exact fun e => hkd e.symm
          clear hkd
          have HS1 := Lib.hid hs1
          have hsb : s ≤ T ∧ s + Q ≤ T := by omega
          clear hs1
          obtain ⟨hsb1, hsb2⟩ := hsb
          have g1 : IntKind.i64.wrap ((s : Int) + (Q : Int)) = (s : Int) + (Q : Int) := IntWalk.i64_in _ (by omega)
          have g2 : IntKind.i64.wrap (z - 1) = z - 1 := IntWalk.i64_in _ (by omega)
          go_wp2
          go_region_held3 (fun w' => w'.cell? ⟨w.heap.size, 0, none⟩ = some (.int .i64 m.C) ∧ w'.cell? ⟨w.heap.size, 1, none⟩ = some (.int .i64 m.D) ∧ w'.cell? ⟨w.heap.size, 2, none⟩ = some (.int .i64 m.S) ∧ w'.cell? ⟨w.heap.size, 3, none⟩ = some (.int .i64 m.M) ∧ w'.cell? ⟨w.heap.size, 4, none⟩ = some (.int .i64 m.L))
            (first
              | go_keep
              | exact ⟨(b2.cell (p := ⟨w.heap.size, 0, none⟩) hlw).trans q0, (b2.cell (p := ⟨w.heap.size, 1, none⟩) hlw).trans q1, (b2.cell (p := ⟨w.heap.size, 2, none⟩) hlw).trans q2, (b2.cell (p := ⟨w.heap.size, 3, none⟩) hlw).trans q3, (b2.cell (p := ⟨w.heap.size, 4, none⟩) hlw).trans q4⟩
              | exact XZ.out.cells
              | exact X5.out.cells
              | exact X6.out.cells)
            (first
              | (go_at_call 60; refine (l01Own_any A n c xs _ (ints_drewN (hI.more (Nat.le_of_lt hlw)) 1) (by omega) HA.out).mono ?_; rintro e w2 ⟨v2, rfl, r2, b2⟩; have X2 := Lib.hid ((HX.out.drewN 1).on b2))
              | (refine step_append_lies _ (by rfl) _ _ _ (by rfl) wr.heap.size 2 i0 _ 1 8 Try.underlying26 HF.out.1 HF.out.2.1 HF.out.2.2.1 HF.out.2.2.2 rfl (by omega) v2 n (intsV xs) (by rfl) (r2.alloc _) ⟨w2.heap.size, 0, none⟩ 1 1 [.int .i64 (d : Int)] (by rfl) (by rfl) (World.news_of_block (cs := #[.int .i64 (d : Int)]) (t := 2) (fr := (0, 0)) (heap_alloc_new w2 _)) (by simp [Value.oneCell']) (by omega) (by unfold maxLen; omega) (by omega) (by have := b2.size; simp at this ⊢; omega) (w2.heap.size + 1) (by simp) ?_; intro gg cap w5 hown1 hgrow hat hlt3; have X5 := Lib.hid ((X2.out.alloc (.cells #[.int .i64 (d : Int)] 2)).grown hgrow (by intro e; have := rowBase r2 _ e.symm; simp at this; omega)); have B5 := Lib.hid ((((below_drewN HBL.out 1).trans (b2.mono HBL.out.size)).alloc (by have := b2.size; simp at this; omega) (.cells #[.int .i64 (d : Int)] 2)).grown hgrow (by have := b2.size; simp at this ⊢; omega) (fun q e => by have := rowBase r2 q e; simp at this; omega)))
              | (go_at_call 72; have hrow5 := hown1; rw [intsV_snoc] at hrow5; obtain ⟨ho5, hc5, hm5⟩ := rowIntsAt hrow5 (by rw [List.length_append, HL.out]; rfl); refine (HI.out j rfl (some ⟨gg, 0, none⟩) (n + 1) cap (xs ++ [(d : Int)]) (z - 1) w5 (by have := HNK.out; omega) ((hkey.below B5.out).more B5.out.size) ho5.ints hc5 hm5 (by simp) (depth_snoc HD.out hlt) (by omega) (by omega)).mono ?_; rw [HQ.out]; rintro e w6 ⟨rfl, b6⟩; have X6 := Lib.hid (X5.out.on b6))
              | (go_at_call 60; refine (l01Own_any A n c xs _ (ints_drewN (hI.alloc (Nat.le_of_lt hlw) (.cells #[.int .i64 (d : Int)] 2)) 1) (by omega) HA.out).mono ?_; rintro e wz ⟨vz, rfl, rz, bz⟩; have XZ := Lib.hid (((HX.out.alloc (.cells #[.int .i64 (d : Int)] 2)).drewN 1).on bz))
              | (refine step_append_lies _ (by rfl) _ _ _ (by rfl) wr.heap.size 2 i0 _ 1 8 Try.underlying26 HF.out.1 HF.out.2.1 HF.out.2.2.1 HF.out.2.2.2 rfl (by omega) vz n (intsV xs) (by rfl) (rowMore rz (by simp)) ⟨wr.heap.size, 0, none⟩ 1 1 [.int .i64 (d : Int)] (by rfl) (by rfl) (news_behind bz) (by simp [Value.oneCell']) (by omega) (by unfold maxLen; omega) (by omega) (by have := bz.size; simp at this ⊢; omega) wz.heap.size rfl ?_; intro gg cap w5 hown1 hgrow hat hlt3; have X5 := Lib.hid (XZ.out.grown hgrow (by intro e; have := rowBase rz _ e.symm; simp at this; omega)); have B5 := Lib.hid (((below_drewN (HBL.out.alloc HBL.out.size (.cells #[.int .i64 (d : Int)] 2)) 1).trans (bz.mono (by simp; omega))).grown hgrow (by have := bz.size; simp at this ⊢; omega) (fun q e => by have := rowBase rz q e; simp at this; omega))))
          all_goals
            have B6 := Lib.hid (B5.out.trans (b6.mono (by have := B5.out.size; exact this)))
            clear q0 q1 q2 q3 q4 e0 e1 e2 e3 e4 hown1 hgrow hat hlt3 b6 X5 B5 g1 j0 j1
            go_wp2
            go_roundw
            case rel => exact ⟨d + 1, s + Q, by go_num, by go_num, by omega, Lib.hid HS1.out, X6.out, B6.out⟩
            case measure => simp [intOf]; omega
      · have HE : Hid (s = T) := Lib.hid (by
          have h1 := hall.out
          rw [tails_end (m := m) (k := j) (xs := xs) (d := d) (by omega)] at h1
          simpa using h1)
        clear hall
        go_wp2
        go_ret
        exact ⟨ret_int (by rw [HE.out]), hbl⟩

theorem l03Near_any (m : Mk) (hm : m.ok = true) (key : List Int) (A' : Option Addr) (nk ck : Nat) (hkC : (nk : Int) = m.C) : ∀ k, NearAll m key A' nk ck k
  | 0 => l03Near_step m hm key A' nk ck hkC 0 (fun j h => by omega)
  | k + 1 => l03Near_step m hm key A' nk ck hkC (k + 1) (fun j h => by
    have e : k = j := by omega
    subst e
    exact l03Near_any m hm key A' nk ck hkC k)

end Go.Proofs.Ytlgaocjcfdfhmaa
