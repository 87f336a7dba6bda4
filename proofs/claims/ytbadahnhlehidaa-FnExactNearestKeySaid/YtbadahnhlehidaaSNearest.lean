/- NearestKey of the model. -/
import Derived.Test.YtbadahnhlehidaaNearest
import Derived.Test.YtbadahnhlehidaaPile
import Derived.Deep.LoopGhost
namespace Go.Proofs.Ytbadahnhlehidaa
open Go Go.RowKit

set_option maxHeartbeats 2000000 in
theorem l01Same_any (A A' : Option Addr) (n c c' : Nat) (xs ys : List Int) (w : World) (h : Ints w w.heap.size A n xs) (h' : Ints w w.heap.size A' n ys) (hn : n ≤ 1048576) :
    Calls Try.prog 119 #[.slice A n c, .slice A' n c'] w fun e w' => e = .returned (.bool (decide (xs = ys))) ∧ ∃ q, w' = w.drewN q := by
  have HL := Lib.hid (And.intro h.len h'.len)
  go_enter Try.func119, Try.ntmps119
  go_wp2
  go_loopw [5] (fun i wr => ∃ k q : Nat, k ≤ n ∧ i = .int .i64 k ∧ Hid (xs.take k = ys.take k) ∧ wr = w.drewN q) (fun i _ => n - (intOf i).toNat)
  case atStart => exact ⟨0, 0, Nat.zero_le _, rfl, Lib.hid rfl, rfl⟩
  case round =>
    obtain ⟨k, q, hk, rfl, hs, rfl⟩ := hrel
    by_cases hlt : k < n
    · obtain ⟨ad, v, rfl, hab, hv, hc⟩ := h.at_ hlt
      obtain ⟨ad', v', rfl, hab', hv', hc'⟩ := h'.at_ hlt
      have i0 : (0 : Int) ≤ (k : Int) := by omega
      have i1 : (k : Int) < (n : Int) := by omega
      by_cases e : v = v'
      · have HS := Lib.hid (take_same hs.out hv hv' e)
        clear hv hv'
        subst e
        go_wp2
        go_quiet (fail)
        go_wp2
        go_roundw
        case rel => exact ⟨k + 1, _, by omega, by go_num, HS, rfl⟩
        case measure => simp [intOf]; omega
      · have HE : Hid (decide (xs = ys) = false) := Lib.hid (decide_eq_false (fun h => e (by rw [h, hv'] at hv; injection hv with hv; exact hv.symm)))
        clear hv hv'
        go_wp2
        go_quiet (fail)
        go_wp2
        go_ret
        exact ⟨ret_bool HE.out.symm, _, World.drewN_drewN _ _ _⟩
    · have HE : Hid (decide (xs = ys) = true) := Lib.hid (decide_eq_true (by
        have := hs.out
        rwa [List.take_of_length_le (by rw [HL.out.1]; omega), List.take_of_length_le (by rw [HL.out.2]; omega)] at this))
      go_wp2
      go_ret
      exact ⟨ret_bool HE.out.symm, q, rfl⟩
theorem fold_mem (key : List Int) : ∀ (l : List (List Int)) (b : Option (List Int)) (z : List Int), l.foldl (nearStep key) b = some z → b = some z ∨ z ∈ l
  | [], b, z, h => .inl h
  | y :: l, b, z, h => by
    rw [List.foldl_cons] at h
    rcases fold_mem key l _ z h with h1 | h1
    · unfold nearStep at h1
      split at h1
      · injection h1 with h1
        exact .inr (by simp [h1])
      · exact .inl h1
    · exact .inr (List.mem_cons_of_mem _ h1)
theorem next_head {R : List (List Int)} {ys : List Int} (h : R.head? = some ys) : ∃ R', R = ys :: R' := by
  cases R with
  | nil => cases h
  | cons a R' => injection h with h; exact ⟨R', by rw [h]⟩

set_option maxRecDepth 100000 in
set_option maxHeartbeats 8000000 in
theorem specNearestKey_any (m : Mk) (A : Option Addr) (n c : Nat) (xs : List Int) (w : World) (h : Ints w w.heap.size A n xs) (hn : n ≤ 1048576) (hc : n ≤ c) (hcm : c ≤ 9223372036854775807) :
    Calls Try.prog 68 #[.agg #[.int .i64 m.C, .int .i64 m.D, .int .i64 m.S, .int .i64 m.M, .int .i64 m.L], .slice A n c] w
      (GivesList w (ktE m xs) (nkL m xs)) := by
  have b0 := (Below.refl w.heap.size w).alloc (Nat.le_refl _) (.cells #[.int .i64 m.C, .int .i64 m.D, .int .i64 m.S, .int .i64 m.M, .int .i64 m.L] 29)
  have hx := Boxed.new w 29 m
  by_cases hz : ktE m xs = 0
  rotate_left
  · rw [nk_no hz]
    obtain ⟨v, hv⟩ : ∃ v, ktE m xs = v := ⟨_, rfl⟩
    rw [hv] at hz ⊢
    have HV := Lib.hid hv
    have hq : (v != 0) = true := by simpa using hz
    clear hz hv
    go_enter Try.func68, Try.ntmps68
    go_wp2_with fail
    refine (l02Code_any m A n c xs _ (h.on b0) hn hc hcm).mono ?_
    rw [HV.out]
    rintro e w1 ⟨rfl, b1⟩
    have c1 := below_trans' b0 b1
    clear b0 b1 hx
    go_wp2
    go_ret2
    exact ⟨none, 0, 0, rfl, Own.nil _ (Nat.le_refl _), by omega, by omega, by omega, c1⟩
  obtain ⟨hm, hk⟩ := kt_key hz
  obtain ⟨zz, hzz⟩ := nearest_is hk
  rw [nk_yes hz hzz, hz]
  have HZZ := Lib.hid hzz
  have HZ := Lib.hid hz
  obtain ⟨_, hlen, hdep, _⟩ := key_facts hk
  have hnI : (n : Int) = m.C := by rw [← h.len]; exact hlen
  obtain ⟨m1, m2, m3, m4, m5, m6, m7, m8, m9, m10, m11⟩ := Mk.ok_true hm
  have HN := Lib.hid hnI
  have HM := Lib.hid (And.intro hm hk)
  have HS7 := Lib.hid (key_seven hk)
  have hn6 : n ≤ 6 := by omega
  have hn0 : 0 < n := by omega
  have HFI := Lib.hid (l02First_any m hm m.C.toNat)
  have HKY : ∀ y, y ∈ allKeys m → isKeyB m y = true := fun y hy => all_are_keys hm hy
  have HKEY := Lib.hid HKY
  clear hz hm hk hlen hzz hnI hdep HKY
  go_enter Try.func68, Try.ntmps68
  go_wp2_with fail
  refine (l02Code_any m A n c xs _ (h.on b0) hn hc hcm).mono ?_
  rw [HZ.out]
  rintro e w1 ⟨rfl, b1⟩
  have c1 := below_trans' b0 b1
  have x1 := hx.on b1
  have s1 := c1.size
  have xa := x1.alloc (.cells #[] 2)
  have ca := c1.alloc s1 (.cells #[] 2)
  have oa : Own (w1.alloc (.cells #[] 2)) w.heap.size (w1.alloc (.cells #[] 2)).heap.size (some ⟨w1.heap.size, 0, none⟩) 0 [] := Own.nil _ (Nat.le_refl _)
  obtain ⟨q0, q1, q2, q3, q4⟩ := xa.cells
  clear b0 b1 hx x1 c1
  go_wp2_with fail
  clear q0 q1 q2 q3 q4
  refine (HFI.out none 0 0 [] w.heap.size _ (by omega) (Own.nil _ (by simp <;> omega)) (by simp <;> omega) (by omega) (by omega) (fun _ => by simp) rfl).mono ?_
  rintro e w2 ⟨A2, n2, c2, ok, ys, rfl, o2, hn2, hc2, hcm2, b2, t2⟩
  have x2 := xa.on b2
  have c2' := below_trans' ca b2
  have oa2 := Lib.hid (oa.above (Above.of_below (B := 0) b2) (Nat.zero_le _))
  have O2 := Lib.hid o2
  have HR0 : Hid ((ok = true ∧ ∃ x R', allKeys m = x :: R' ∧ Own w2 w.heap.size w2.heap.size A2 n2 x ∧ n2 ≤ c2 ∧ c2 ≤ 9223372036854775807) ∨ (ok = false ∧ allKeys m = [])) := by
    rcases t2 with ⟨h1, h2⟩ | ⟨h1, h2⟩
    · obtain ⟨R', e⟩ := next_head h2
      exact Lib.hid (.inl ⟨h1, ys, R', e, O2.out, hc2, hcm2⟩)
    · exact Lib.hid (.inr ⟨h1, h2⟩)
  clear t2 o2 oa xa ca b2
  go_wp2
  go_loopg [7, 8, 9] (allKeys m).length (fun k v7 v8 v9 wr => ∃ (b : Option (List Int)) (R : List (List Int)) (A1 : Option Addr) (n1 c1 : Nat) (A2 : Option Addr) (n2 c2 : Nat) (ok : Bool), v7 = .slice A1 n1 c1 ∧ v8 = .slice A2 n2 c2 ∧ v9 = .bool ok ∧
    Hid (Own wr w.heap.size wr.heap.size A1 n1 (b.getD []) ∧ n1 ≤ c1 ∧ c1 ≤ 9223372036854775807) ∧
    Hid ((ok = true ∧ ∃ x R', R = x :: R' ∧ Own wr w.heap.size wr.heap.size A2 n2 x ∧ n2 ≤ c2 ∧ c2 ≤ 9223372036854775807) ∨ (ok = false ∧ R = [])) ∧
    Hid (∃ pre, allKeys m = pre ++ R ∧ pre.foldl (nearStep xs) none = b) ∧ Hid (R.length = k) ∧ Boxed wr w.heap.size 29 m ∧ Below w.heap.size w wr)
  case atStart => exact ⟨none, allKeys m, _, 0, 0, A2, n2, c2, ok, rfl, rfl, rfl, Lib.hid ⟨oa2.out, Nat.le_refl _, by omega⟩, HR0, Lib.hid ⟨[], rfl, rfl⟩, Lib.hid rfl, x2, c2'⟩
  case round =>
    obtain ⟨b, R, A1, n1, cc1, A3, n3, c3, ok3, rfl, rfl, rfl, hb1, hr, hpre, hlenR, hbox, hbl⟩ := hrel
    clear x2 c2' oa2 HR0
    rcases ok3 with _ | _
    · -- all keys have come
      have HE : Hid (b.getD [] = zz) := by
        rcases hr.out with ⟨h1, _⟩ | ⟨_, h2⟩
        · cases h1
        · obtain ⟨pre, e1, e2⟩ := hpre.out
          rw [h2, List.append_nil] at e1
          have e3 := HZZ.out
          unfold nearest at e3
          rw [e1, e2] at e3
          exact Lib.hid (by rw [e3]; rfl)
      have HB1 := hb1
      have hl1 : Hid (n1 = n) := Lib.hid (by
        have := HB1.out.1.len
        rw [HE.out] at this
        have hzk : isKeyB m zz = true := by
          have e3 := HZZ.out
          unfold nearest at e3
          rcases fold_mem xs _ none zz e3 with h1 | h1
          · cases h1
          · exact HKEY.out _ h1
        obtain ⟨_, hzl, _⟩ := key_facts hzk
        have := HN.out
        omega)
      go_wp2
      go_ret2
      exact ⟨A1, n1, cc1, rfl, by rw [← HE.out]; exact HB1.out.1, by have := hl1.out; omega, HB1.out.2.1, HB1.out.2.2, hbl⟩
    · obtain ⟨x, R', hR, hox, hcx, hcmx⟩ : ∃ x R', R = x :: R' ∧ Own wr w.heap.size wr.heap.size A3 n3 x ∧ n3 ≤ c3 ∧ c3 ≤ 9223372036854775807 := by
        rcases hr.out with ⟨_, h1⟩ | ⟨h1, _⟩
        · exact h1
        · cases h1
      subst hR
      obtain ⟨pre, e1, e2⟩ := hpre.out
      have hxk := HKEY.out x (by rw [e1]; simp)
      obtain ⟨_, hxl, hxd, _⟩ := key_facts hxk
      have hn3 : n3 = n := by have := hox.len; have := HN.out; omega
      subst hn3
      have HXK := Lib.hid hxk
      have HXD := Lib.hid hxd
      have HX7 := Lib.hid (key_seven hxk)
      have HNX := Lib.hid (next_of HM.out.1 e1)
      have HP2 : ∀ b', nearStep xs b x = b' → Hid (∃ pre', allKeys m = pre' ++ R' ∧ pre'.foldl (nearStep xs) none = b') := fun b' hb' => Lib.hid ⟨pre ++ [x], by rw [e1]; simp, by rw [List.foldl_append, e2]; exact hb'⟩
      have HPP := Lib.hid HP2
      have HBM : Hid (∀ z, b = some z → isKeyB m z = true) := Lib.hid (fun z hz => by
        rw [hz] at e2
        rcases fold_mem xs pre none z e2 with h1 | h1
        · cases h1
        · exact HKEY.out _ (by rw [e1]; exact List.mem_append_left _ h1))
      have HRL : Hid (R'.length + 1 = gk) := Lib.hid (by rw [← hlenR.out]; rfl)
      have HOX := Lib.hid (And.intro hox (And.intro hcx hcmx))
      have HB1 := hb1
      have HBL := Lib.hid hbl
      have HBX := Lib.hid hbox
      have hI := Lib.hid ((h.below hbl).more hbl.size)
      have hXI := Lib.hid hox.ints
      clear e1 e2 hxk hxl hxd hox hb1 hr hpre hlenR hbox hbl HP2
      have hdc := distI_comm (xs := x) (ys := xs) (by rw [HOX.out.1.len, h.len])
      by_cases hsame : x = xs
      · -- the key itself
        have hd : decide (x = xs) = true := decide_eq_true hsame
        have HST : Hid (nearStep xs b x = b) := Lib.hid (by unfold nearStep better; rw [decide_eq_false (fun h => h hsame)]; rfl)
        clear hsame hdc
        go_wp2_with fail
        refine (l01Same_any A3 A n3 c3 c x xs _ hXI.out hI.out hn).mono ?_
        rw [hd]
        rintro e w3 ⟨rfl, q3, rfl⟩
        have X4 := Lib.hid (show Boxed (wr.drewN q3) w.heap.size 29 m from HBX.out)
        have B4 := Lib.hid (show Below w.heap.size w (wr.drewN q3) from below_drewN HBL.out _)
        have A4 := Lib.hid (show Above 0 wr (wr.drewN q3) from Above.drewN _ _ _)
        obtain ⟨q0, q1, q2, q3', q4'⟩ := X4.out.cells
        go_wp2_with fail
        clear q0 q1 q2 q3' q4'
        refine (l02Next_any m HM.out.1 A3 n3 c3 x _ ((HOX.out.1.above A4.out (Nat.zero_le _)).ints) HN.out HOX.out.2.1 HXD.out).mono ?_
        rw [HNX.out]
        rintro e w6 ⟨A6, n6, c6, ok6, ys6, rfl, o6, hn6', hc6, hm6, b6, t6⟩
        have A6' := A4.out.trans (Above.of_below b6)
        have O1 := Lib.hid (And.intro (HB1.out.1.above A6' (Nat.zero_le _)) HB1.out.2)
        have O6 := Lib.hid (o6.more (show w.heap.size ≤ (wr.drewN q3).heap.size from B4.out.size) (Nat.le_refl _) (Nat.le_refl _))
        have X6 := Lib.hid (X4.out.on b6)
        have B6 := Lib.hid (below_trans' B4.out b6)
        have HR6 : Hid ((ok6 = true ∧ ∃ x R'', R' = x :: R'' ∧ Own w6 w.heap.size w6.heap.size A6 n6 x ∧ n6 ≤ c6 ∧ c6 ≤ 9223372036854775807) ∨ (ok6 = false ∧ R' = [])) := by
          rcases t6 with ⟨h1, h2⟩ | ⟨h1, h2⟩
          · obtain ⟨R'', e⟩ := next_head h2
            exact Lib.hid (.inl ⟨h1, ys6, R'', e, O6.out, hc6, hm6⟩)
          · exact Lib.hid (.inr ⟨h1, h2⟩)
        clear t6 o6 b6 A6'
        go_wp2
        go_roundg R'.length
        case measure => have := HRL.out; omega
        case rel => exact ⟨b, R', A1, n1, cc1, A6, n6, c6, ok6, rfl, rfl, rfl, Lib.hid O1.out, Lib.hid HR6.out, HPP.out _ HST.out, Lib.hid rfl, X6.out, B6.out⟩
      have hd : decide (x = xs) = false := decide_eq_false hsame
      have HNE := Lib.hid hsame
      clear hsame
      rcases b with _ | z
      · -- the first one
        have hn1 : n1 = 0 := by have := HB1.out.1.len; simpa using this.symm
        subst hn1
        have HST : Hid (nearStep xs none x = some x) := Lib.hid (by unfold nearStep better; rw [decide_eq_true (show x ≠ xs from HNE.out)]; rfl)
        clear hdc
        go_wp2_with fail
        refine (l01Same_any A3 A n3 c3 c x xs _ hXI.out hI.out hn).mono ?_
        rw [hd]
        rintro e w3 ⟨rfl, q3, rfl⟩
        have X4 := Lib.hid (show Boxed (wr.drewN q3) w.heap.size 29 m from HBX.out)
        have B4 := Lib.hid (show Below w.heap.size w (wr.drewN q3) from below_drewN HBL.out _)
        have A4 := Lib.hid (show Above 0 wr (wr.drewN q3) from Above.drewN _ _ _)
        obtain ⟨q0, q1, q2, q3', q4'⟩ := X4.out.cells
        go_wp2_with fail
        clear q0 q1 q2 q3' q4'
        refine (l02Next_any m HM.out.1 A3 n3 c3 x _ ((HOX.out.1.above A4.out (Nat.zero_le _)).ints) HN.out HOX.out.2.1 HXD.out).mono ?_
        rw [HNX.out]
        rintro e w6 ⟨A6, n6, c6, ok6, ys6, rfl, o6, hn6', hc6, hm6, b6, t6⟩
        have A6' := A4.out.trans (Above.of_below b6)
        have O1 := Lib.hid (And.intro (HOX.out.1.above A6' (Nat.zero_le _)) HOX.out.2)
        have O6 := Lib.hid (o6.more (show w.heap.size ≤ (wr.drewN q3).heap.size from B4.out.size) (Nat.le_refl _) (Nat.le_refl _))
        have X6 := Lib.hid (X4.out.on b6)
        have B6 := Lib.hid (below_trans' B4.out b6)
        have HR6 : Hid ((ok6 = true ∧ ∃ x R'', R' = x :: R'' ∧ Own w6 w.heap.size w6.heap.size A6 n6 x ∧ n6 ≤ c6 ∧ c6 ≤ 9223372036854775807) ∨ (ok6 = false ∧ R' = [])) := by
          rcases t6 with ⟨h1, h2⟩ | ⟨h1, h2⟩
          · obtain ⟨R'', e⟩ := next_head h2
            exact Lib.hid (.inl ⟨h1, ys6, R'', e, O6.out, hc6, hm6⟩)
          · exact Lib.hid (.inr ⟨h1, h2⟩)
        clear t6 o6 b6 A6'
        go_wp2
        go_roundg R'.length
        case measure => have := HRL.out; omega
        case rel => exact ⟨some x, R', A3, n3, c3, A6, n6, c6, ok6, rfl, rfl, rfl, Lib.hid O1.out, Lib.hid HR6.out, HPP.out _ HST.out, Lib.hid rfl, X6.out, B6.out⟩
      · have hzk := HBM.out z rfl
        obtain ⟨_, hzl, _⟩ := key_facts hzk
        have HZ7 := Lib.hid (key_seven hzk)
        have hn1 : n1 = n3 := by
          have h1 := HB1.out.1.len
          have h2 : (z.length : Int) = (n3 : Int) := by rw [hzl]; exact HN.out.symm
          have h3 : z.length = n1 := h1
          omega
        subst hn1
        have hdz := distI_comm (xs := z) (ys := xs) (by have : z.length = n1 := HB1.out.1.len; rw [this, h.len])
        have HZI := Lib.hid (show Ints wr wr.heap.size A1 n1 z from HB1.out.1.ints)
        have hne0 : ((n1 : Int) == 0) = false := by simp; omega
        obtain ⟨u, hu⟩ : ∃ u, distI xs x = u := ⟨_, rfl⟩
        obtain ⟨v, hv⟩ : ∃ v, distI xs z = v := ⟨_, rfl⟩
        have HU := Lib.hid (hdc.trans hu)
        have HV := Lib.hid (hdz.trans hv)
        by_cases hlt : u < v
        · have HST : Hid (nearStep xs (some z) x = some x) := Lib.hid (by
            unfold nearStep better
            rw [decide_eq_true (show x ≠ xs from HNE.out)]
            show (if (true && decide (distI xs x < distI xs z)) = true then _ else _) = _
            rw [decide_eq_true (by rw [hu, hv]; exact hlt)]; rfl)
          clear hu hv hdc hdz hzk hzl
          go_wp2_with fail
          refine (l01Same_any A3 A n1 c3 c x xs _ hXI.out hI.out hn).mono ?_
          rw [hd]
          rintro e w3 ⟨rfl, q3, rfl⟩
          go_wp2_with fail
          refine (l03Distance_any A3 A n1 c3 c x xs _ (ints_drewN hXI.out _) (ints_drewN hI.out _) hn HX7.out HS7.out).mono ?_
          rw [HU.out]
          rintro e w4 ⟨rfl, q4, rfl⟩
          go_wp2_with fail
          refine (l03Distance_any A1 A n1 cc1 c z xs _ (ints_drewN HZI.out _) (ints_drewN hI.out _) hn HZ7.out HS7.out).mono ?_
          rw [HV.out]
          rintro e w5 ⟨rfl, q5, rfl⟩
          have X4 := Lib.hid (show Boxed (wr.drewN (q3 + q4 + q5)) w.heap.size 29 m from HBX.out)
          have B4 := Lib.hid (show Below w.heap.size w (wr.drewN (q3 + q4 + q5)) from below_drewN HBL.out _)
          have A4 := Lib.hid (show Above 0 wr (wr.drewN (q3 + q4 + q5)) from Above.drewN _ _ _)
          obtain ⟨q0, q1, q2, q3', q4'⟩ := X4.out.cells
          go_wp2_with fail
          clear q0 q1 q2 q3' q4'
          refine (l02Next_any m HM.out.1 A3 n1 c3 x _ ((HOX.out.1.above A4.out (Nat.zero_le _)).ints) HN.out HOX.out.2.1 HXD.out).mono ?_
          rw [HNX.out]
          rintro e w6 ⟨A6, n6, c6, ok6, ys6, rfl, o6, hn6', hc6, hm6, b6, t6⟩
          have A6' := A4.out.trans (Above.of_below b6)
          have O1 := Lib.hid (And.intro (HOX.out.1.above A6' (Nat.zero_le _)) HOX.out.2)
          have O6 := Lib.hid (o6.more (show w.heap.size ≤ (wr.drewN (q3 + q4 + q5)).heap.size from B4.out.size) (Nat.le_refl _) (Nat.le_refl _))
          have X6 := Lib.hid (X4.out.on b6)
          have B6 := Lib.hid (below_trans' B4.out b6)
          have HR6 : Hid ((ok6 = true ∧ ∃ x R'', R' = x :: R'' ∧ Own w6 w.heap.size w6.heap.size A6 n6 x ∧ n6 ≤ c6 ∧ c6 ≤ 9223372036854775807) ∨ (ok6 = false ∧ R' = [])) := by
            rcases t6 with ⟨h1, h2⟩ | ⟨h1, h2⟩
            · obtain ⟨R'', e⟩ := next_head h2
              exact Lib.hid (.inl ⟨h1, ys6, R'', e, O6.out, hc6, hm6⟩)
            · exact Lib.hid (.inr ⟨h1, h2⟩)
          clear t6 o6 b6 A6'
          go_wp2
          go_roundg R'.length
          case measure => have := HRL.out; omega
          case rel => exact ⟨some x, R', A3, n1, c3, A6, n6, c6, ok6, rfl, rfl, rfl, Lib.hid O1.out, Lib.hid HR6.out, HPP.out _ HST.out, Lib.hid rfl, X6.out, B6.out⟩
        · have HST : Hid (nearStep xs (some z) x = some z) := Lib.hid (by
            unfold nearStep better
            rw [decide_eq_true (show x ≠ xs from HNE.out)]
            show (if (true && decide (distI xs x < distI xs z)) = true then _ else _) = _
            rw [decide_eq_false (by rw [hu, hv]; exact hlt)]; rfl)
          clear hu hv hdc hdz hzk hzl
          go_wp2_with fail
          refine (l01Same_any A3 A n1 c3 c x xs _ hXI.out hI.out hn).mono ?_
          rw [hd]
          rintro e w3 ⟨rfl, q3, rfl⟩
          go_wp2_with fail
          refine (l03Distance_any A3 A n1 c3 c x xs _ (ints_drewN hXI.out _) (ints_drewN hI.out _) hn HX7.out HS7.out).mono ?_
          rw [HU.out]
          rintro e w4 ⟨rfl, q4, rfl⟩
          go_wp2_with fail
          refine (l03Distance_any A1 A n1 cc1 c z xs _ (ints_drewN HZI.out _) (ints_drewN hI.out _) hn HZ7.out HS7.out).mono ?_
          rw [HV.out]
          rintro e w5 ⟨rfl, q5, rfl⟩
          have X4 := Lib.hid (show Boxed (wr.drewN (q3 + q4 + q5)) w.heap.size 29 m from HBX.out)
          have B4 := Lib.hid (show Below w.heap.size w (wr.drewN (q3 + q4 + q5)) from below_drewN HBL.out _)
          have A4 := Lib.hid (show Above 0 wr (wr.drewN (q3 + q4 + q5)) from Above.drewN _ _ _)
          obtain ⟨q0, q1, q2, q3', q4'⟩ := X4.out.cells
          go_wp2_with fail
          clear q0 q1 q2 q3' q4'
          refine (l02Next_any m HM.out.1 A3 n1 c3 x _ ((HOX.out.1.above A4.out (Nat.zero_le _)).ints) HN.out HOX.out.2.1 HXD.out).mono ?_
          rw [HNX.out]
          rintro e w6 ⟨A6, n6, c6, ok6, ys6, rfl, o6, hn6', hc6, hm6, b6, t6⟩
          have A6' := A4.out.trans (Above.of_below b6)
          have O1 := Lib.hid (And.intro (HB1.out.1.above A6' (Nat.zero_le _)) HB1.out.2)
          have O6 := Lib.hid (o6.more (show w.heap.size ≤ (wr.drewN (q3 + q4 + q5)).heap.size from B4.out.size) (Nat.le_refl _) (Nat.le_refl _))
          have X6 := Lib.hid (X4.out.on b6)
          have B6 := Lib.hid (below_trans' B4.out b6)
          have HR6 : Hid ((ok6 = true ∧ ∃ x R'', R' = x :: R'' ∧ Own w6 w.heap.size w6.heap.size A6 n6 x ∧ n6 ≤ c6 ∧ c6 ≤ 9223372036854775807) ∨ (ok6 = false ∧ R' = [])) := by
            rcases t6 with ⟨h1, h2⟩ | ⟨h1, h2⟩
            · obtain ⟨R'', e⟩ := next_head h2
              exact Lib.hid (.inl ⟨h1, ys6, R'', e, O6.out, hc6, hm6⟩)
            · exact Lib.hid (.inr ⟨h1, h2⟩)
          clear t6 o6 b6 A6'
          go_wp2
          go_roundg R'.length
          case measure => have := HRL.out; omega
          case rel => exact ⟨some z, R', A1, n1, cc1, A6, n6, c6, ok6, rfl, rfl, rfl, Lib.hid O1.out, Lib.hid HR6.out, HPP.out _ HST.out, Lib.hid rfl, X6.out, B6.out⟩

end Go.Proofs.Ytbadahnhlehidaa
