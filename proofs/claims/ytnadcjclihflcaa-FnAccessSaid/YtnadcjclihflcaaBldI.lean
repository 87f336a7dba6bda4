/- The laws' comparing and marking of buildings. IsBuilding of the program and of the model. -/
import Derived.Test.YtnadcjclihflcaaBldK
namespace Go.Proofs.Ytnadcjclihflcaa
open Go.RowKit

theorem eqBuilding_true (A B A' B' : Option Addr) (n c k d c' d' : Nat) (P : List Int) (D : List Bool) (w : World) (h : Bld w A n B k P D) (h' : Bld w A' n B' k P D) (hn : n ≤ 1048576) (hk : k ≤ 1048576) :
    Calls Try.prog 66 #[.agg #[.slice A n c, .slice B k d], .agg #[.slice A' n c', .slice B' k d']] w fun e w' => e = .returned (.bool true) ∧ Below w.heap.size w w' := by
  have c0 := ((Below.refl w.heap.size w).alloc (Nat.le_refl _) (.cells #[.slice A n c, .slice B k d] 27)).alloc (by simp) (.cells #[.slice A' n c', .slice B' k d'] 27)
  have h0 := Lib.hid (h.on c0)
  have h0' := Lib.hid (h'.on c0)
  have k0 := Lib.hid ((Cell2.new w 27 (.slice A n c) (.slice B k d)).alloc (.cells #[.slice A' n c', .slice B' k d'] 27))
  have k1 := Lib.hid (Cell2.new (w.alloc (.cells #[.slice A n c, .slice B k d] 27)) 27 (.slice A' n c') (.slice B' k d'))
  have C0 := Lib.hid c0
  simp only [World.size_alloc] at k1
  clear c0
  go_enter Try.func66, Try.ntmps66
  go_wp2_with fail
  refine (eqInts_true A A' n c c' P _ h0.out.ps h0'.out.ps hn).mono ?_
  rintro e w1 ⟨rfl, b1⟩
  have H1 := Lib.hid (h0.out.on b1)
  have H1' := Lib.hid (h0'.out.on b1)
  have C1 := Lib.hid (C0.out.trans (b1.mono C0.out.size))
  obtain ⟨p0, p1⟩ := (k0.out.on b1).cells
  obtain ⟨q0, q1⟩ := (k1.out.on b1).cells
  clear b1 h0 h0' k0 k1 C0
  go_wp2_with fail
  refine (eqBools_true B B' k d d' D _ H1.out.ds H1'.out.ds hk).mono ?_
  rintro e w2 ⟨rfl, b2⟩
  have C2 := Lib.hid (C1.out.trans (b2.mono C1.out.size))
  clear b2 p0 p1 q0 q1
  go_wp2
  go_ret
  exact ⟨rfl, C2.out⟩

theorem markBuilding_any (A B : Option Addr) (n c k d lo hi : Nat) (P : List Int) (D : List Bool) (z : Int) (w : World) (h : BOwn w lo hi A n B k P D) (hn : n ≤ 1048576) (hk : k ≤ 1048576) (k0 : 0 ≤ z) (k1 : z ≤ 1000000) :
    Calls Try.prog 67 #[.agg #[.slice A n c, .slice B k d], .int .i64 z] w fun e w' => e = .returned (.int .i64 (z + n + k)) ∧ BOwn w' lo hi A n B k (marks z n) (marksB (z + n) k) ∧ ∃ w1 r1 r2, w.grownBy w1 r1 ∧ w1.grownBy w' r2 ∧ (∀ g, r1 = some g → lo ≤ g ∧ g < hi) ∧ (∀ g, r2 = some g → lo ≤ g ∧ g < hi) := by
  have c0 := (Below.refl w.heap.size w).alloc (Nat.le_refl _) (.cells #[.slice A n c, .slice B k d] 27)
  have h0 := Lib.hid (h.below c0)
  have K0 := Lib.hid (Cell2.new w 27 (.slice A n c) (.slice B k d))
  have hs := h.ps.size
  have G0 : Hid (w.grownBy (w.alloc (.cells #[.slice A n c, .slice B k d] 27)) none) := Lib.hid ⟨c0.os, c0.tape, c0.output, c0.size, fun i hi _ => c0.block i hi⟩
  obtain ⟨la, ra, ta, ba, sa⟩ := h0.out.ps.tight
  have TA := Lib.hid ta
  have BA := Lib.hid ba
  clear c0 ta ba
  go_enter Try.func67, Try.ntmps67
  go_wp2_with fail
  refine (markInts_any A n c P z la ra _ TA.out hn k0 (by omega)).mono ?_
  rintro e w1 ⟨rfl, o1, row, hg, hr⟩
  have O1 := Lib.hid o1
  have G1 := Lib.hid hg
  have R1 : Hid (∀ g, row = some g → lo ≤ g ∧ g < hi ∧ 0 < n ∧ ∃ a, A = some a ∧ a.block = g) := Lib.hid (fun g e => BA.out g (hr g e).1 (hr g e).2)
  have D1 := Lib.hid (h0.out.ds.past hg (fun g a e hk' ea eg => by
    obtain ⟨_, _, hn', a', ea', eg'⟩ := R1.out g e
    exact h.ne a' a hn' hk' ea' ea (by rw [eg', eg])))
  obtain ⟨p0, p1⟩ := (K0.out.grown hg (fun e => by have := (R1.out _ e.symm).2.1; omega)).cells
  have s1 := hg.size
  rw [World.size_alloc] at s1
  clear hg hr o1 K0
  obtain ⟨lb, rb, tb, bb, sb⟩ := D1.out.tight
  have TB := Lib.hid tb
  have BB := Lib.hid bb
  clear tb bb
  go_wp2_with fail
  refine (markBools_any B k d D (z + n) lb rb _ TB.out hk (by omega) (by omega)).mono ?_
  rintro e w2 ⟨rfl, o2, row2, hg2, hr2⟩
  have R2 : Hid (∀ g, row2 = some g → lo ≤ g ∧ g < hi ∧ 0 < k ∧ ∃ a, B = some a ∧ a.block = g) := Lib.hid (fun g e => BB.out g (hr2 g e).1 (hr2 g e).2)
  have O2 := Lib.hid (O1.out.past hg2 (fun g a e hn' ea eg => by
    obtain ⟨_, _, hk', b', eb', eg'⟩ := R2.out g e
    exact h.ne a b' hn' hk' ea eb' (by rw [eg', eg])))
  have Q2 := Lib.hid o2
  have G2 := Lib.hid hg2
  clear o2 hg2 hr2 p0 p1
  have s2 := G2.out.size
  have FA : Hid (Own w2 lo hi A n (marks z n)) := Lib.hid ⟨O2.out.1, by omega, fun hn' => by
    obtain ⟨ad, e, h1, h2, hc⟩ := O2.out.2.2 hn'
    have := BA.out ad.block h1 h2
    exact ⟨ad, e, this.1, this.2.1, hc⟩⟩
  have FB : Hid (OwnB w2 lo hi B k (marksB (z + n) k)) := Lib.hid ⟨Q2.out.1, by omega, fun hn' => by
    obtain ⟨ad, e, h1, h2, hc⟩ := Q2.out.2.2 hn'
    have := BB.out ad.block h1 h2
    exact ⟨ad, e, this.1, this.2.1, hc⟩⟩
  go_wp2
  go_ret
  refine ⟨rfl, ⟨FA.out, FB.out, h.ne⟩, w1, row, row2, ?_, G2.out, fun g e => ⟨(R1.out g e).1, (R1.out g e).2.1⟩, fun g e => ⟨(R2.out g e).1, (R2.out g e).2.1⟩⟩
  exact (grown_any G0.out).trans G1.out

theorem heldBuilding_any (A B : Option Addr) (n c k d : Nat) (z : Int) (w : World) (h : Bld w A n B k (marks z n) (marksB (z + n) k)) (hn : n ≤ 1048576) (hk : k ≤ 1048576) (k0 : 0 ≤ z) (k1 : z ≤ 1000000) :
    Calls Try.prog 115 #[.agg #[.slice A n c, .slice B k d], .int .i64 z] w fun e w' => e = .returned (.int .i64 (z + n + k)) ∧ Below w.heap.size w w' := by
  have c0 := (Below.refl w.heap.size w).alloc (Nat.le_refl _) (.cells #[.slice A n c, .slice B k d] 27)
  have h0 := Lib.hid (h.on c0)
  have C0 := Lib.hid c0
  obtain ⟨p0, p1⟩ := (Cell2.new w 27 (.slice A n c) (.slice B k d)).cells
  clear c0
  go_enter Try.func115, Try.ntmps115
  go_wp2_with fail
  refine (heldInts_any A n c z _ h0.out.ps hn k0 (by omega)).mono ?_
  rintro e w1 ⟨rfl, rfl⟩
  have hz1 : ¬ (z + (n : Int) < 0) := by omega
  go_wp2_with fail
  refine (heldBools_any B k d (z + n) _ h0.out.ds hk (by omega) (by omega)).mono ?_
  rintro e w2 ⟨rfl, b2⟩
  have C2 := Lib.hid (C0.out.trans (b2.mono C0.out.size))
  have hz2 : ¬ (z + (n : Int) + (k : Int) < 0) := by omega
  clear b2 p0 p1 C0
  go_wp2
  go_ret
  exact ⟨rfl, C2.out⟩

/-- the first true one, or -1 -/
theorem indexBool_any (B : Option Addr) (k d : Nat) (D : List Bool) (w : World) (h : Bools w w.heap.size B k D) (hk : k ≤ 1048576) :
    Calls Try.prog 140 #[.slice B k d, .bool true] w fun e w' => (∃ r : Int, e = .returned (.int .i64 r) ∧ (0 ≤ r ↔ anyD D = true)) ∧ w = w' := by
  have HL := Lib.hid h.len
  go_enter Try.func140, Try.ntmps140
  go_wp2
  go_loop [8] (fun i => ∃ j : Nat, j ≤ k ∧ i = .int .i64 j ∧ Hid (anyD (D.take j) = false)) (fun i => k - (intOf i).toNat)
  case atStart => exact ⟨0, Nat.zero_le _, rfl, Lib.hid rfl⟩
  case round =>
    obtain ⟨j, hj, rfl, hno⟩ := hrel
    by_cases hlt : j < k
    · obtain ⟨ad, v, rfl, hab, hv, hc⟩ := h.at_ hlt
      have HV := Lib.hid hv
      clear hv
      rcases v with _ | _
      · go_wp2
        go_round
        case rel =>
          refine ⟨j + 1, by omega, by go_num, Lib.hid ?_⟩
          obtain ⟨hl, hx⟩ := List.getElem?_eq_some_iff.1 HV.out
          have := hno.out
          unfold anyD at *
          rw [List.take_succ_eq_append_getElem hl, List.any_append, this, hx]; rfl
        case measure => simp [intOf]; omega
      · have e0 : (0 : Int) ≤ (j : Int) := by omega
        go_wp2
        go_ret
        refine ⟨⟨_, rfl, ?_⟩, rfl⟩
        constructor
        · intro _
          unfold anyD
          rw [List.any_eq_true]
          exact ⟨true, List.mem_of_getElem? HV.out, rfl⟩
        · intro _; exact e0
    · have HE : Hid (anyD D = false) := Lib.hid (by rw [← hno.out, List.take_of_length_le (by have := HL.out; omega)])
      go_wp2
      go_ret
      refine ⟨⟨_, rfl, ?_⟩, rfl⟩
      rw [HE.out]
      simp
theorem containsBool_any (B : Option Addr) (k d : Nat) (D : List Bool) (w : World) (h : Bools w w.heap.size B k D) (hk : k ≤ 1048576) :
    Calls Try.prog 133 #[.slice B k d, .bool true] w fun e w' => e = .returned (.bool (anyD D)) ∧ w = w' := by
  go_enter Try.func133, Try.ntmps133
  go_wp2_with fail
  refine (indexBool_any B k d D _ h hk).mono ?_
  rintro e w' ⟨⟨r, rfl, hr⟩, rfl⟩
  have HR := Lib.hid hr
  clear hr
  by_cases h0 : 0 ≤ r
  · go_wp2
    go_ret
    exact ⟨ret_bool (HR.out.1 h0).symm, rfl⟩
  · go_wp2
    go_ret
    refine ⟨ret_bool ?_, rfl⟩
    rcases hq : anyD D with _ | _
    · simp; omega
    · have := HR.out.2 hq; omega

/-- the parent of a node, and whether a node is a door, as they lie -/
theorem Bld.par_at {w : World} {A B : Option Addr} {n k : Nat} {P : List Int} {D : List Bool} (h : Bld w A n B k P D) {i : Nat} (hi : i < n) : ∃ ad, A = some ad ∧ w.cell? (ad.add i) = some (.int .i64 (par P i)) := by
  obtain ⟨ad, v, e, _, hv, hc⟩ := h.ps.at_ hi
  refine ⟨ad, e, ?_⟩
  rw [hc]
  unfold par
  rw [List.getD_eq_getElem?_getD, hv]; rfl
theorem Bld.dor_at {w : World} {A B : Option Addr} {n k : Nat} {P : List Int} {D : List Bool} (h : Bld w A n B k P D) {i : Nat} (hi : i < k) : ∃ ad, B = some ad ∧ w.cell? (ad.add i) = some (.bool (dor D i)) := by
  obtain ⟨ad, v, e, _, hv, hc⟩ := h.ds.at_ hi
  refine ⟨ad, e, ?_⟩
  rw [hc]
  unfold dor
  rw [List.getD_eq_getElem?_getD, hv]; rfl
theorem add_zero' (a : Addr) : a.add 0 = a := by simp [Addr.add]
theorem bldB_eq {P : List Int} {D : List Bool} {n k : Nat} (hP : P.length = n) (hD : D.length = k) : bldB P D = (inB n 2 24 && (k == n) && (par P 0 == -1) && !dor D 0 && nodesTo P D n && anyD D) := by
  unfold bldB; rw [hP, hD]
theorem nodeB_door {P : List Int} {D : List Bool} {i : Nat} (h : dor D (par P i).toNat = true) : nodeB P D i = false := by unfold nodeB; rw [h]; simp
theorem nodeB_out {P : List Int} {D : List Bool} {i : Nat} (h : inB (par P i) 0 ((i : Int) - 1) = false) : nodeB P D i = false := by unfold nodeB; rw [h]; rfl
theorem nodeB_yes {P : List Int} {D : List Bool} {i : Nat} (h : inB (par P i) 0 ((i : Int) - 1) = true) (h2 : dor D (par P i).toNat = false) : nodeB P D i = true := by unfold nodeB; rw [h, h2]; rfl
theorem par_one {P : List Int} (h : inB (par P 1) 0 ((1 : Nat) - 1 : Int) = true) : par P 1 = 0 := by rw [inB_true] at h; omega

set_option maxHeartbeats 1000000 in
theorem isBuilding_any (A B : Option Addr) (n c k d : Nat) (P : List Int) (D : List Bool) (w : World) (h : Bld w A n B k P D) (hn : n ≤ 1048576) (hk : k ≤ 1048576) :
    Calls Try.prog 95 #[.agg #[.slice A n c, .slice B k d]] w fun e w' => e = .returned (.bool (bldB P D)) ∧ Below w.heap.size w w' := by
  have c0 := (Below.refl w.heap.size w).alloc (Nat.le_refl _) (.cells #[.slice A n c, .slice B k d] 27)
  have h0 := Lib.hid (h.on c0)
  have C0 := Lib.hid c0
  have HB := Lib.hid (bldB_eq h.ps.len h.ds.len)
  obtain ⟨p0, p1⟩ := (Cell2.new w 27 (.slice A n c) (.slice B k d)).cells
  clear c0
  rcases hq : inB n 2 24 with _ | _
  · go_enter Try.func95, Try.ntmps95
    go_wp2_with (go_at_call 96; (with_reducible refine (isWithin_any _ _ _ _).mono ?_); rintro e w' ⟨rfl, rfl⟩)
    go_ret
    exact ⟨ret_bool (by rw [HB.out, hq]; rfl), C0.out⟩
  · have hr := inB_true.1 hq
    have n2 : 2 ≤ n := by omega
    have n24 : n ≤ 24 := by omega
    by_cases hkn : k = n
    · subst hkn
      obtain ⟨pa, rfl, hpa⟩ := h0.out.par_at (i := 0) (by omega)
      rw [add_zero'] at hpa
      have hi0 : (0 : Int) < (k : Int) := by omega
      rcases hroot : (par P 0 == -1) with _ | _
      · have hne : ¬ par P 0 = -1 := by simpa using hroot
        have HR := Lib.hid hroot
        clear hroot hr
        go_enter Try.func95, Try.ntmps95
        go_wp2_with (go_at_call 96; (with_reducible refine (isWithin_any _ _ _ _).mono ?_); rintro e w' ⟨rfl, rfl⟩)
        go_ret
        exact ⟨ret_bool (by rw [HB.out, hq, HR.out]; simp), C0.out⟩
      · have hne : par P 0 = -1 := by simpa using hroot
        rw [hne] at hpa
        have HR := Lib.hid hroot
        clear hroot hne
        go_enter Try.func95, Try.ntmps95
        go_wp2_with (go_at_call 96; (with_reducible refine (isWithin_any _ _ _ _).mono ?_); rintro e w' ⟨rfl, rfl⟩)
        have r1 : Hid (nodesTo P D 1 = true) := Lib.hid rfl
        have H1 := Lib.hid hpa
        have hkc : (k : Int) ≤ 24 := by omega
        have k1 : 1 ≤ k := by omega
        clear hpa
        go_loop [4] (fun i => ∃ j : Nat, 1 ≤ j ∧ j ≤ k ∧ i = .int .i64 j ∧ Hid (nodesTo P D j = true)) (fun i => k - (intOf i).toNat)
        case atStart => exact ⟨1, Nat.le_refl _, k1, rfl, r1⟩
        case round =>
          obtain ⟨j, hj1, hj, rfl, hall⟩ := hrel
          by_cases hlt : j < k
          · obtain ⟨_, e, hpj⟩ := h0.out.par_at hlt
            injection e with e
            subst e
            rcases hin : inB (par P j) 0 ((j : Int) - 1) with _ | _
            · have HI := Lib.hid (nodeB_out (D := D) hin)
              obtain ⟨q, hq'⟩ : ∃ q, q = par P j := ⟨_, rfl⟩
              rw [← hq'] at hpj hin
              have hj0 : (1 : Int) ≤ (j : Int) := by omega
              clear hq'
              go_wp2_with (go_at_call 96; (with_reducible refine (isWithin_any _ _ _ _).mono ?_); rintro e w' ⟨rfl, rfl⟩)
              go_ret
              exact ⟨ret_bool (by rw [HB.out, nodesTo_no hj1 hlt HI.out]; simp), C0.out⟩
            · have hin' := inB_true.1 hin
              obtain ⟨q, hq'⟩ : ∃ q : Nat, par P j = (q : Int) := ⟨(par P j).toNat, by omega⟩
              have hqj : q < j := by omega
              have hdq : dor D (par P j).toNat = dor D q := by rw [hq']; rfl
              obtain ⟨pb, rfl, hpb⟩ := h0.out.dor_at (i := q) (by omega)
              have HI := Lib.hid hin
              rw [hq'] at hpj hin
              have hj0 : (1 : Int) ≤ (j : Int) := by omega
              have hqk : (q : Int) < (k : Int) := by omega
              have hq0 : (0 : Int) ≤ (q : Int) := by omega
              have HD := Lib.hid hdq
              clear hq' hin' hdq
              rcases hd : dor D q with _ | _
              · rw [hd] at hpb
                have HN := Lib.hid (nodeB_yes HI.out (HD.out.trans hd))
                clear hd
                go_wp2_with (go_at_call 96; (with_reducible refine (isWithin_any _ _ _ _).mono ?_); rintro e w' ⟨rfl, rfl⟩)
                go_round
                case rel => exact ⟨j + 1, by omega, by omega, by go_num, Lib.hid (by rw [nodesTo_succ, hall.out, HN.out]; simp)⟩
                case measure => simp [intOf]; omega
              · rw [hd] at hpb
                have HN := Lib.hid (nodeB_door (HD.out.trans hd))
                clear hd
                go_wp2_with (go_at_call 96; (with_reducible refine (isWithin_any _ _ _ _).mono ?_); rintro e w' ⟨rfl, rfl⟩)
                go_ret
                exact ⟨ret_bool (by rw [HB.out, nodesTo_no hj1 hlt HN.out]; simp), C0.out⟩
          · obtain rfl : j = k := by omega
            have HA := hall
            clear hall
            have hd0 : dor D 0 = false := by
              have := nodesTo_at HA.out (Nat.le_refl 1) (by omega)
              unfold nodeB at this
              rw [Bool.and_eq_true] at this
              have e := par_one this.1
              rw [e] at this
              simpa using this.2
            have HD0 := Lib.hid hd0
            clear hd0
            go_wp2_with (go_at_call 133; (with_reducible refine (containsBool_any _ _ _ D _ h0.out.ds hk).mono ?_); rintro e w' ⟨rfl, rfl⟩)
            go_ret
            exact ⟨ret_bool (by rw [HB.out, hq, HR.out, HD0.out, HA.out]; simp), C0.out⟩
    · have hne : ((k : Int) != (n : Int)) = true := by simp; omega
      have HK := Lib.hid hkn
      clear hkn hr
      go_enter Try.func95, Try.ntmps95
      go_wp2_with (go_at_call 96; (with_reducible refine (isWithin_any _ _ _ _).mono ?_); rintro e w' ⟨rfl, rfl⟩)
      go_ret
      exact ⟨ret_bool (by rw [HB.out, hq]; have : (k == n) = false := by simpa using HK.out
                          rw [this]; simp), C0.out⟩

set_option maxHeartbeats 1000000 in
theorem specIsBuilding_any (A B : Option Addr) (n c k d : Nat) (P : List Int) (D : List Bool) (w : World) (h : Bld w A n B k P D) (hn : n ≤ 1048576) (hk : k ≤ 1048576) :
    Calls Try.prog 111 #[.agg #[.slice A n c, .slice B k d]] w fun e w' => e = .returned (.bool (bldB P D)) ∧ Below w.heap.size w w' := by
  have c0 := (Below.refl w.heap.size w).alloc (Nat.le_refl _) (.cells #[.slice A n c, .slice B k d] 27)
  have h0 := Lib.hid (h.on c0)
  have C0 := Lib.hid c0
  have HB := Lib.hid (bldB_eq h.ps.len h.ds.len)
  have K0 := Lib.hid (Cell2.new w 27 (.slice A n c) (.slice B k d))
  obtain ⟨p0, p1⟩ := K0.out.cells
  clear c0
  rcases hq : inB n 2 24 with _ | _
  · go_enter Try.func111, Try.ntmps111
    go_wp2_with (go_at_call 113; (with_reducible refine (l01In_any _ _ _ _).mono ?_); rintro e w' ⟨rfl, rfl⟩)
    go_ret
    exact ⟨ret_bool (by rw [HB.out, hq]; rfl), C0.out⟩
  have hr := inB_true.1 hq
  have n2 : 2 ≤ n := by omega
  have n24 : n ≤ 24 := by omega
  by_cases hkn : k = n
  case neg =>
    have hne : ((k : Int) != (n : Int)) = true := by simp; omega
    have HK := Lib.hid hkn
    clear hkn hr
    go_enter Try.func111, Try.ntmps111
    go_wp2_with (go_at_call 113; (with_reducible refine (l01In_any _ _ _ _).mono ?_); rintro e w' ⟨rfl, rfl⟩)
    go_ret
    exact ⟨ret_bool (by rw [HB.out, hq]; have : (k == n) = false := by simpa using HK.out
                        rw [this]; simp), C0.out⟩
  subst hkn
  obtain ⟨pa, rfl, hpa⟩ := h0.out.par_at (i := 0) (by omega)
  obtain ⟨pb, rfl, hpb⟩ := h0.out.dor_at (i := 0) (by omega)
  rw [add_zero'] at hpa hpb
  have hi0 : (0 : Int) < (k : Int) := by omega
  rcases hroot : (par P 0 == -1) with _ | _
  · have hne : ¬ par P 0 = -1 := by simpa using hroot
    have HR := Lib.hid hroot
    clear hroot hr
    go_enter Try.func111, Try.ntmps111
    go_wp2_with (go_at_call 113; (with_reducible refine (l01In_any _ _ _ _).mono ?_); rintro e w' ⟨rfl, rfl⟩)
    go_ret
    exact ⟨ret_bool (by rw [HB.out, hq, HR.out]; simp), C0.out⟩
  have hne : par P 0 = -1 := by simpa using hroot
  rw [hne] at hpa
  have HR := Lib.hid hroot
  clear hroot hne
  rcases hd0 : dor D 0 with _ | _
  case true =>
    have HD0 := Lib.hid hd0
    rw [hd0] at hpb
    clear hr hd0
    go_enter Try.func111, Try.ntmps111
    go_wp2_with (go_at_call 113; (with_reducible refine (l01In_any _ _ _ _).mono ?_); rintro e w' ⟨rfl, rfl⟩)
    go_ret
    exact ⟨ret_bool (by rw [HB.out, hq, HR.out, HD0.out]; simp), C0.out⟩
  have HD0 := Lib.hid hd0
  rw [hd0] at hpb
  clear hr hd0
  go_enter Try.func111, Try.ntmps111
  go_wp2_with (go_at_call 113; (with_reducible refine (l01In_any _ _ _ _).mono ?_); rintro e w' ⟨rfl, rfl⟩)
  have k1 : 1 ≤ k := by omega
  have a1 : Hid (anyD (D.take 1) = false) := Lib.hid (by
    have h2 : D.length = k := h.ds.len
    have h3 := HD0.out
    unfold dor at h3
    rcases D with _ | ⟨x, r⟩
    · simp at h2; omega
    · simp at h3
      subst h3
      rfl)
  have HL := Lib.hid h.ds.len
  have hkc : (k : Int) ≤ 24 := by omega
  clear hpa hpb p0 p1
  go_loopw [4, 5] (fun s i wr => ∃ j : Nat, ∃ b : Bool, 1 ≤ j ∧ j ≤ k ∧ i = .int .i64 j ∧ s = .bool b ∧ Hid (anyD (D.take j) = b) ∧ Hid (nodesTo P D j = true) ∧ Hid (Cell2 wr w.heap.size 27 (.slice (some pa) k c) (.slice (some pb) k d)) ∧ Hid (Bld wr (some pa) k (some pb) k P D) ∧ Below w.heap.size w wr) (fun _ i _ => k - (intOf i).toNat)
  case atStart => exact ⟨1, false, Nat.le_refl _, k1, rfl, rfl, a1, Lib.hid rfl, K0, h0, C0.out⟩
  case round =>
    obtain ⟨j, bb, hj1, hj, rfl, rfl, hab, hall, HC, HX, hb⟩ := hrel
    obtain ⟨p0, p1⟩ := HC.out.cells
    by_cases hlt : j < k
    · obtain ⟨_, e, hpj⟩ := HX.out.par_at hlt
      injection e with e
      subst e
      obtain ⟨_, e, hdj⟩ := HX.out.dor_at hlt
      injection e with e
      subst e
      have hj0 : (1 : Int) ≤ (j : Int) := by omega
      have hj2 : (0 : Int) ≤ (j : Int) := by omega
      have hjk : (j : Int) < (k : Int) := by omega
      have HT : Hid (anyD (D.take (j + 1)) = (bb || dor D j)) := Lib.hid (by
        rw [← hab.out]
        have hl := HL.out
        unfold anyD dor
        rw [List.take_succ_eq_append_getElem (by omega), List.any_append, List.getD_eq_getElem?_getD, List.getElem?_eq_getElem (by omega)]
        simp)
      rcases hin : inB (par P j) 0 ((j : Int) - 1) with _ | _
      · have HI := Lib.hid (nodeB_out (D := D) hin)
        obtain ⟨q, hq'⟩ : ∃ q, q = par P j := ⟨_, rfl⟩
        rw [← hq'] at hpj hin
        clear hq'
        go_wp2
        go_quiet ((go_at_call 113; (try rw [← hin]); exact quiet_left (l01In_any _ _ _ _)))
        go_wp2
        go_ret
        exact ⟨ret_bool (by rw [HB.out, nodesTo_no hj1 hlt HI.out]; simp), below_drewN hb _⟩
      · have hin' := inB_true.1 hin
        obtain ⟨q, hq'⟩ : ∃ q : Nat, par P j = (q : Int) := ⟨(par P j).toNat, by omega⟩
        have hqj : q < j := by omega
        have hdq : dor D (par P j).toNat = dor D q := by rw [hq']; rfl
        obtain ⟨_, e, hpq⟩ := HX.out.dor_at (i := q) (by omega)
        injection e with e
        subst e
        have HI := Lib.hid hin
        rw [hq'] at hpj hin
        have hqk : (q : Int) < (k : Int) := by omega
        have hq0 : (0 : Int) ≤ (q : Int) := by omega
        have HD := Lib.hid hdq
        clear hq' hin' hdq
        rcases hd : dor D q with _ | _
        · rw [hd] at hpq
          have HN := Lib.hid (nodeB_yes HI.out (HD.out.trans hd))
          clear hd
          go_wp2
          go_quiet ((go_at_call 113; (try rw [← hin]); exact quiet_left (l01In_any _ _ _ _)))
          have hb2 := below_drewN hb
          have HNx : Hid (nodesTo P D (j + 1) = true) := Lib.hid (by rw [nodesTo_succ, hall.out, HN.out]; simp)
          cases bb
          · go_wp2
            go_roundw
            case rel => exact ⟨j + 1, _, by omega, by omega, by go_num, rfl, Lib.hid (by rw [HT.out]; rfl), HNx, HC, Lib.hid (HX.out.drewN _), hb2 _⟩
            case measure => simp [intOf]; omega
          · go_wp2
            go_roundw
            case rel => exact ⟨j + 1, _, by omega, by omega, by go_num, rfl, Lib.hid (by rw [HT.out]; rfl), HNx, HC, Lib.hid (HX.out.drewN _), hb2 _⟩
            case measure => simp [intOf]; omega
        · rw [hd] at hpq
          have HN := Lib.hid (nodeB_door (HD.out.trans hd))
          clear hd
          go_wp2
          go_quiet ((go_at_call 113; (try rw [← hin]); exact quiet_left (l01In_any _ _ _ _)))
          go_wp2
          go_ret
          exact ⟨ret_bool (by rw [HB.out, nodesTo_no hj1 hlt HN.out]; simp), below_drewN hb _⟩
    · obtain rfl : j = k := by omega
      have HE : Hid (bb = anyD D) := Lib.hid (by rw [← hab.out, List.take_of_length_le (by have := HL.out; omega)])
      go_wp2
      go_ret
      exact ⟨ret_bool (by rw [HB.out, hq, HR.out, HD0.out, hall.out, HE.out]; simp), hb⟩

end Go.Proofs.Ytnadcjclihflcaa
