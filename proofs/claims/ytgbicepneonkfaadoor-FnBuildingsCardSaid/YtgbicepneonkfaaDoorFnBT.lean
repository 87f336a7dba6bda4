/- FnBuildings: texts and buildings, to and fro; its helpers; its draws. -/
import Derived.Test.YtgbicepneonkfaaDoorRdP
import Derived.Test.YtgbicepneonkfaaDoorDrawBD
import Derived.Test.YtgbicepneonkfaaDoorDamage
namespace Go.Proofs.YtgbicepneonkfaaDoor
open Go Go.RowKit

theorem rd_text {l : List UInt8} (h : rdC l = 0) : bdE (rdP l) (rdD l) = 0 ∧ btT (rdP l) (rdD l) = l := by
  have hg : rdG l = true := by
    rcases hr : rdG l with _ | _
    · rw [(rd_no hr).2.2] at h; cases h
    · rfl
  obtain ⟨e1, e2, _⟩ := rd_yes hg
  rw [e1, e2]
  unfold rdG at hg
  rw [Bool.and_eq_true, decide_eq_true_eq] at hg
  unfold bdE btT
  rw [hg.1]
  exact ⟨rfl, hg.2⟩
theorem text_rd {P : List Int} {D : List Bool} (h : bdE P D = 0) : rdC (btT P D) = 0 ∧ rdP (btT P D) = P ∧ rdD (btT P D) = D := by
  have hb : bldB P D = true := by
    rcases hr : bldB P D with _ | _
    · unfold bdE at h; rw [hr] at h; cases h
    · rfl
  obtain ⟨hT, n2, n24, hkn, hd0, _⟩ := bld_tree hb
  have hP : ∀ i, 1 ≤ i → i < P.length → 0 ≤ par P i ∧ par P i ≤ 99 := fun i h1 hi => par_small hT n24 h1 hi
  have hform : ∀ w ∈ wordsB P D P.length, ∀ c ∈ w, c ≠ 32 := by
    intro w hw
    unfold wordsB at hw
    obtain ⟨j, hj, rfl⟩ := List.mem_map.1 hw
    have := List.mem_range.1 hj
    exact (word_form _ _ _ (hP (j + 1) (by omega) (by omega)).2).2
  have hlen : (wordsB P D P.length).length = P.length - 1 := by unfold wordsB; simp
  have hne : wordsB P D P.length ≠ [] := by
    intro e
    rw [e] at hlen
    simp at hlen
    omega
  have ht : btT P D = bldT P D P.length := by unfold btT; rw [hb]; rfl
  have hc : cutL 32 (btT P D) = wordsB P D P.length := by rw [ht]; exact cut_join 32 _ hne hform
  have hw : ∀ j, j < P.length - 1 → wPar (wordB P D (j + 1)) = par P (j + 1) ∧ wDor (wordB P D (j + 1)) = dor D (j + 1) := by
    intro j hj
    obtain ⟨v0, _⟩ := hP (j + 1) (by omega) (by omega)
    unfold wPar wDor wordB kindB
    rw [List.dropLast_concat, List.getLast?_concat, (dec_props _).2.1]
    refine ⟨by omega, ?_⟩
    cases dor D (j + 1) <;> rfl
  have e1 : prL (btT P D) = P := by
    unfold prL prK nw
    rw [hc, List.take_length]
    apply List.ext_getElem?
    intro i
    rcases i with _ | j
    · have h0 := hT.root
      unfold par at h0
      rw [List.getD_eq_getElem?_getD] at h0
      rw [List.getElem?_cons_zero, List.getElem?_eq_getElem (by omega)] at *
      simpa using h0.symm
    · rw [List.getElem?_cons_succ, List.getElem?_map]
      unfold wordsB
      rw [List.getElem?_map]
      by_cases hj : j < P.length - 1
      · rw [List.getElem?_range hj]
        simp only [Option.map_some]
        rw [(hw j hj).1]
        unfold par
        rw [List.getD_eq_getElem?_getD, List.getElem?_eq_getElem (by omega)]; rfl
      · rw [List.getElem?_eq_none (by simp; omega), List.getElem?_eq_none (by omega)]; rfl
  have e2 : drL (btT P D) = D := by
    unfold drL drK nw
    rw [hc, List.take_length]
    apply List.ext_getElem?
    intro i
    rcases i with _ | j
    · unfold dor at hd0
      rw [List.getD_eq_getElem?_getD] at hd0
      rw [List.getElem?_cons_zero, List.getElem?_eq_getElem (by omega)] at *
      simpa using hd0.symm
    · rw [List.getElem?_cons_succ, List.getElem?_map]
      unfold wordsB
      rw [List.getElem?_map]
      by_cases hj : j < P.length - 1
      · rw [List.getElem?_range hj]
        simp only [Option.map_some]
        rw [(hw j hj).2]
        unfold dor
        rw [List.getD_eq_getElem?_getD, List.getElem?_eq_getElem (by omega)]; rfl
      · rw [List.getElem?_eq_none (by simp; omega), List.getElem?_eq_none (by omega)]; rfl
  have hg : rdG (btT P D) = true := by
    unfold rdG
    rw [e1, e2, hb, Bool.true_and, decide_eq_true_eq, ht]
  obtain ⟨k1, k2, k3⟩ := rd_yes hg
  exact ⟨k3, k1.trans e1, k2.trans e2⟩

theorem likeBools_true (A A' : Option Addr) (n c c' : Nat) (xs : List Bool) (w : World) (h : Bools w w.heap.size A n xs) (h' : Bools w w.heap.size A' n xs) (hn : n ≤ 1048576) :
    Calls Tryd.prog 47 #[.slice A n c, .slice A' n c'] w fun e w' => e = .returned (.bool true) ∧ Below w.heap.size w w' := by
  go_enter Tryd.func47, Tryd.ntmps47
  go_wp2
  go_loopw [5] (fun i wr => ∃ k : Nat, k ≤ n ∧ i = .int .i64 k ∧ Below w.heap.size w wr) (fun i _ => n - (intOf i).toNat)
  case atStart => exact ⟨0, Nat.zero_le _, rfl, Below.refl _ _⟩
  case round =>
    obtain ⟨k, hk, rfl, hb⟩ := hrel
    by_cases hlt : k < n
    · obtain ⟨ad, v, rfl, hab, hv, hc⟩ := (h.below hb).at_ hlt
      obtain ⟨ad', v', rfl, hab', hv', hc'⟩ := (h'.below hb).at_ hlt
      obtain rfl : v = v' := by rw [hv] at hv'; injection hv'
      clear hv hv'
      have hnn : (v != v) = false := by simp
      go_wp2
      go_quiet (fail)
      go_wp2
      go_roundw
      case rel => exact ⟨k + 1, by omega, by go_num, below_drewN hb _⟩
      case measure => simp [intOf]; omega
    · go_wp2
      go_ret
      exact ⟨rfl, hb⟩

set_option maxHeartbeats 2000000 in
theorem likeBuildings_true (A B A' B' : Option Addr) (n c k d c' d' : Nat) (P : List Int) (D : List Bool) (w : World) (h : Bld w A n B k P D) (h' : Bld w A' n B' k P D) (hn : n ≤ 1048576) (hk : k ≤ 1048576) :
    Calls Tryd.prog 15 #[.agg #[.slice A n c, .slice B k d], .agg #[.slice A' n c', .slice B' k d']] w fun e w' => e = .returned (.bool true) ∧ Below w.heap.size w w' := by
  have c0 := ((Below.refl w.heap.size w).alloc (Nat.le_refl _) (.cells #[.slice A n c, .slice B k d] 27)).alloc (by simp) (.cells #[.slice A' n c', .slice B' k d'] 27)
  have h0 := Lib.hid (h.on c0)
  have h0' := Lib.hid (h'.on c0)
  have k0 := Lib.hid ((Cell2.new w 27 (.slice A n c) (.slice B k d)).alloc (.cells #[.slice A' n c', .slice B' k d'] 27))
  have k1 := Lib.hid (Cell2.new (w.alloc (.cells #[.slice A n c, .slice B k d] 27)) 27 (.slice A' n c') (.slice B' k d'))
  have C0 := Lib.hid c0
  simp only [World.size_alloc] at k1
  obtain ⟨p0, p1⟩ := k0.out.cells
  obtain ⟨q0, q1⟩ := k1.out.cells
  clear c0
  go_enter Tryd.func15, Tryd.ntmps15
  go_wp2_with fail
  refine (likeInts_true A A' n c c' P _ h0.out.ps h0'.out.ps hn).mono ?_
  rintro e w1 ⟨rfl, b1⟩
  have H1 := Lib.hid (h0.out.on b1)
  have H1' := Lib.hid (h0'.out.on b1)
  have C1 := Lib.hid (C0.out.trans (b1.mono C0.out.size))
  obtain ⟨p0', p1'⟩ := (k0.out.on b1).cells
  obtain ⟨q0', q1'⟩ := (k1.out.on b1).cells
  clear b1 h0 h0' k0 k1 C0 p0 p1 q0 q1
  go_wp2_with fail
  refine (likeBools_true B B' k d d' D _ H1.out.ds H1'.out.ds hk).mono ?_
  rintro e w2 ⟨rfl, b2⟩
  have C2 := Lib.hid (C1.out.trans (b2.mono C1.out.size))
  clear b2 p0' p1' q0' q1'
  go_wp2
  go_ret
  exact ⟨rfl, C2.out⟩

/-- what the draw of a building answers, its source made anew -/
def DrawnBT (w : World) (e : Ending) (w' : World) : Prop :=
  ∃ A1 m c1 A2 k c2 P D, e = .returned (.agg #[.slice A1 m c1, .slice A2 k c2]) ∧ BOwn w' w.heap.size w'.heap.size A1 m A2 k P D ∧ m ≤ 64 ∧ k ≤ 64 ∧ Below w.heap.size w w'

set_option maxRecDepth 100000 in
set_option maxHeartbeats 4000000 in
theorem drawBuildingText_any (B : Nat) (A : Option Addr) (n c : Nat) (w : World) (hb : Bts w B A n) (hB : B ≤ w.heap.size) (hn : n ≤ 4096) :
    Calls Tryd.prog 9 #[.slice A n c] w (DrawnBT w) := by
  have b0 := (Below.refl w.heap.size w).alloc (Nat.le_refl _) (.cells #[.slice none 0 0, .slice none 0 0] 27)
  have K0 := Lib.hid (Cell2.new w 27 (.slice none 0 0) (.slice none 0 0))
  have HB := Lib.hid (hb.keep (w' := w.alloc (.cells #[.slice none 0 0, .slice none 0 0] 27)) (fun p hp => b0.cell (Nat.lt_of_lt_of_le hp hB)))
  have B0 := Lib.hid b0
  clear b0 hb
  go_enter Tryd.func9, Tryd.ntmps9
  go_wp2_with fail
  refine (l01From_any B A n c _ HB.out (by simp; omega) hn).mono ?_
  rintro e w0 ⟨g, rfl, hg, hg1, h1, b1⟩
  have K1 := Lib.hid (K0.out.on b1)
  have B1 := Lib.hid (below_trans' B0.out b1)
  have S1 := Lib.hid h1
  rw [World.size_alloc] at hg
  clear h1 b1 K0 B0 HB
  go_wp2_with fail
  refine (l09Draw_any B g A n c _ S1.out).mono ?_
  rintro e w1 ⟨A1, m, c1, A2, k, c2, P, D, rfl, hx, hm, hk, _, _, _, _, h2, g2⟩
  have K2 := Lib.hid (K1.out.grown g2 (fun e => by injection e with e; omega))
  have B2 := Lib.hid (below_grown B1.out g2 (fun q e => by injection e with e; omega))
  have HX := Lib.hid hx
  clear h2 g2 K1 B1 S1 hx
  obtain ⟨r0, r1⟩ := K2.out.cells
  have f0 := K2.out.thawed 0
  have f1 := K2.out.thawed 1
  go_wp2
  clear r0 r1 f0 f1
  have R := ((K2.out.put0 (.slice A1 m c1)).put1 (.slice A2 k c2)).cells
  have s5 : w1.grownBy ((w1.setCell ⟨w.heap.size, 0, none⟩ (.slice A1 m c1)).setCell ⟨w.heap.size, 1, none⟩ (.slice A2 k c2)) (some w.heap.size) := grown_set (p := ⟨w.heap.size, 1, none⟩) (grown_set (p := ⟨w.heap.size, 0, none⟩) (World.grownBy.refl w1 _) rfl _) rfl _
  refine bodyPost_ret (v := .agg #[.slice A1 m c1, .slice A2 k c2]) (by simp [results, Tryd.results9, go_sem, R.1, R.2]) rfl ⟨_, _, _, _, _, _, P, D, rfl, ?_, hm, hk, below_grown B2.out s5 (fun q e => by injection e with e; omega)⟩
  exact (HX.out.apart s5 (fun q e => by injection e with e; omega)).wide.more (by omega) (Nat.le_refl _) (Nat.le_refl _)

/-- what the draw of a text answers, its source made anew -/
def DrawnTx (w : World) (m : Nat) (e : Ending) (w' : World) : Prop :=
  ∃ t : ByteArray, e = .returned (.string t) ∧ t.size ≤ m ∧ Below w.heap.size w w'
set_option maxRecDepth 100000 in
set_option maxHeartbeats 4000000 in
theorem drawReadBuilding_any (B : Nat) (A : Option Addr) (n c : Nat) (w : World) (hb : Bts w B A n) (hB : B ≤ w.heap.size) (hn : n ≤ 4096) :
    Calls Tryd.prog 12 #[.slice A n c] w (DrawnTx w 401) := by
  have HB := Lib.hid hb
  clear hb
  go_enter Tryd.func12, Tryd.ntmps12
  go_wp2_with fail
  refine (l01From_any B A n c _ HB.out hB hn).mono ?_
  rintro e w1 ⟨g, rfl, hg, hg1, h1, b1⟩
  have s1 := b1.size
  go_wp2_with fail
  refine (l09Valid_any B g A n c _ h1).mono ?_
  rintro e w2 ⟨x, y, z, m, q, P, D, rfl, hT, m2, m10, h2, g2⟩
  have b2 := below_grown b1 g2 (fun q e => by injection e with e; omega)
  obtain ⟨a1, c1, a2, c2, rfl, rfl, hO, _, _, _, _⟩ := hT.own
  have hup := Lib.hid hT.up
  clear b1 h1 g2 hT
  go_wp2_with fail
  refine (l09TextP_any _ _ _ _ _ _ P D _ hO.bld hup.out rfl m2 (by omega)).mono ?_
  rintro e w3 ⟨t, rfl, ht, htm, b3⟩
  have h3 := h2.on b3 (by have := b2.size; omega)
  have b3' := below_trans' b2 b3
  clear b2 b3 h2 hO ht hup
  go_wp2_with fail
  refine (l01Next_any B g A n c _ _ h3 (by omega)).mono ?_
  rintro e w4 ⟨r, rfl, r0, r1, h4, g4⟩
  have b4 := below_grown b3' g4 (fun q e => by injection e with e; omega)
  clear h3 b3' g4 r1
  rcases k0 : (r == 0) with _ | _
  · go_wp2
    go_ret
    exact ⟨t, rfl, by omega, b4⟩
  · go_wp2_with fail
    refine (damage_any B g A n c t _ h4 (by omega)).mono ?_
    rintro e w5 ⟨u, rfl, hu, h5, g5⟩
    have b5 := below_grown b4 g5 (fun q e => by injection e with e; omega)
    clear b4 g5 h4 h5
    go_wp2
    go_ret
    exact ⟨u, rfl, by omega, b5⟩

end Go.Proofs.YtgbicepneonkfaaDoor
