/- ReadBuilding of the program. -/
import Derived.Test.YtgbicepneonkfaaDoorRdN
namespace Go.Proofs.YtgbicepneonkfaaDoor
open Go Go.RowKit

theorem cell_block {w w' : World} {g k : Nat} (h : w'.heap[g]? = w.heap[g]?) : w'.cell? ⟨g, k, none⟩ = w.cell? ⟨g, k, none⟩ := by simp [World.cell?, h]
theorem Duo.past {w w' : World} {base : Nat} {x y : Value} {jp jd gb : Nat} {P : List Int} {D : List Bool} (h : Duo w base x y jp jd P D) (hg : w.grownBy w' (some gb)) (hx : x.ownBlock ≠ some gb) (hy : y.ownBlock ≠ some gb) : Duo w' base x y jp jd P D := by
  obtain ⟨⟨g1, c1, e1, o1⟩, ⟨g2, c2, e2, o2⟩, a, d, e⟩ := h
  subst e1; subst e2
  exact ⟨⟨g1, c1, rfl, rowPastB o1 hg (fun e => hx e.symm)⟩, ⟨g2, c2, rfl, rowPastB o2 hg (fun e => hy e.symm)⟩, a, d, e⟩
/-- what is kept between two words: the rows, the result's box, the building's box, the words -/
structure RdK (w wr w2 : World) (gb gw : Nat) (x y : Value) (jp jd : Nat) (P : List Int) (D : List Bool) : Prop where
  duo : Duo wr (w.heap.size + 1) x y jp jd P D
  rb : Cell2 wr w.heap.size 27 (.slice none 0 0) (.slice none 0 0)
  bx : Cell2 wr gb 27 x y
  ax : x.ownBlock ≠ some gb
  ay : y.ownBlock ≠ some gb
  vx : x.ownBlock ≠ some gw
  vy : y.ownBlock ≠ some gw
  ww : wr.heap[gw]? = w2.heap[gw]?
  lb : w.heap.size < gb
  lw : gb < gw
  lz : gw < wr.heap.size
  bl : Below w.heap.size w wr
theorem RdK.below {w wr w2 : World} {gb gw : Nat} {x y : Value} {jp jd : Nat} {P : List Int} {D : List Bool} (h : RdK w wr w2 gb gw x y jp jd P D) {w' : World} (b : Below wr.heap.size wr w') : RdK w w' w2 gb gw x y jp jd P D :=
  ⟨h.duo.below b, h.rb.on b, h.bx.on b, h.ax, h.ay, h.vx, h.vy, (b.block gw h.lz).trans h.ww, h.lb, h.lw, by have := b.size; have := h.lz; omega, below_trans' h.bl b⟩
theorem RdK.alloc {w wr w2 : World} {gb gw : Nat} {x y : Value} {jp jd : Nat} {P : List Int} {D : List Bool} (h : RdK w wr w2 gb gw x y jp jd P D) (o : Obj) : RdK w (wr.alloc o) w2 gb gw x y jp jd P D := h.below ((Below.refl _ _).alloc (Nat.le_refl _) o)
theorem RdK.row1 {w wr w2 : World} {gb gw : Nat} {x y : Value} {jp jd : Nat} {P : List Int} {D : List Bool} (h : RdK w wr w2 gb gw x y jp jd P D) : ∃ g c, x = .slice (some ⟨g, 0, none⟩) jp c ∧ w.heap.size < g ∧ g < wr.heap.size ∧ g ≠ gb ∧ g ≠ gw := by
  obtain ⟨g, c, e, o⟩ := h.duo.r1
  have := rowAt o
  refine ⟨g, c, e, by omega, this.2, fun e' => h.ax (by rw [e, e']; rfl), fun e' => h.vx (by rw [e, e']; rfl)⟩
theorem RdK.row2 {w wr w2 : World} {gb gw : Nat} {x y : Value} {jp jd : Nat} {P : List Int} {D : List Bool} (h : RdK w wr w2 gb gw x y jp jd P D) : ∃ g c, y = .slice (some ⟨g, 0, none⟩) jd c ∧ w.heap.size < g ∧ g < wr.heap.size ∧ g ≠ gb ∧ g ≠ gw := by
  obtain ⟨g, c, e, o⟩ := h.duo.r2
  have := rowAt o
  refine ⟨g, c, e, by omega, this.2, fun e' => h.ay (by rw [e, e']; rfl), fun e' => h.vy (by rw [e, e']; rfl)⟩
theorem RdK.growP {w wr w2 : World} {gb gw : Nat} {x y : Value} {jp jd : Nat} {P : List Int} {D : List Bool} (h : RdK w wr w2 gb gw x y jp jd P D) {wn : World} (hg : wr.grownBy wn x.ownBlock) : Cell2 wn gb 27 x y := h.bx.grown hg (fun e => h.ax e.symm)
theorem RdK.pushP {w wr w2 : World} {gb gw : Nat} {x y : Value} {jp jd : Nat} {P : List Int} {D : List Bool} (h : RdK w wr w2 gb gw x y jp jd P D) {wn : World} {gg cap : Nat} {v : Int} (ho : wn.ownsRow (w.heap.size + 1) 2 1 (.slice (some ⟨gg, 0, none⟩) (jp + 1) cap) (jp + 1) (listI P ++ [.int .i64 v])) (hg : wr.grownBy wn x.ownBlock) (ha : x.ownBlock = some gg ∨ wr.heap.size ≤ gg) :
    RdK w (wn.setCell ⟨gb, 0, none⟩ (.slice (some ⟨gg, 0, none⟩) (jp + 1) cap)) w2 gb gw (.slice (some ⟨gg, 0, none⟩) (jp + 1) cap) y (jp + 1) jd (P ++ [v]) D := by
  have hb := h.bx.lt
  have hd := h.duo.pushP ho hg ha
  have hgb : gg ≠ gb := by
    rintro rfl
    rcases ha with ha | ha
    · exact h.ax ha
    · omega
  have hgw : gg ≠ gw := by
    rintro rfl
    rcases ha with ha | ha
    · exact h.vx ha
    · have := h.lz; omega
  have s1 := h.growP hg
  have s5 : wn.grownBy (wn.setCell ⟨gb, 0, none⟩ (.slice (some ⟨gg, 0, none⟩) (jp + 1) cap)) (some gb) := grown_set (p := ⟨gb, 0, none⟩) (World.grownBy.refl _ _) rfl _
  have n1 : Value.ownBlock (.slice (some ⟨gg, 0, none⟩) (jp + 1) cap) ≠ some gb := by rw [own_slice]; intro e; injection e with e; exact hgb e
  have n2 : Value.ownBlock (.slice (some ⟨gg, 0, none⟩) (jp + 1) cap) ≠ some gw := by rw [own_slice]; intro e; injection e with e; exact hgw e
  obtain ⟨gx, cx, ex, l1, l2, _, _⟩ := h.row1
  have bl := below_grown h.bl hg (fun k e => by rw [ex, own_slice] at e; injection e with e; omega)
  have lb := h.lb
  have sz := hg.size
  refine ⟨hd.past s5 n1 h.ay, (h.rb.grown hg (fun e => by rw [ex, own_slice] at e; injection e with e; omega)).grown s5 (fun e => by injection e with e; omega), s1.put0 _, n1, h.ay, n2, h.vy, ?_, h.lb, h.lw, ?_, below_grown bl s5 (fun k e => by injection e with e; omega)⟩
  · have lw := h.lw
    have lz := h.lz
    exact ((s5.block gw (by omega) (fun e => by injection e with e; omega)).trans (hg.block gw h.lz (fun e => h.vx e.symm))).trans h.ww
  · have := s5.size
    have := h.lz
    omega
theorem RdK.growD {w wr w2 : World} {gb gw : Nat} {x y : Value} {jp jd : Nat} {P : List Int} {D : List Bool} (h : RdK w wr w2 gb gw x y jp jd P D) {wn : World} (hg : wr.grownBy wn y.ownBlock) : Cell2 wn gb 27 x y := h.bx.grown hg (fun e => h.ay e.symm)
theorem RdK.pushD {w wr w2 : World} {gb gw : Nat} {x y : Value} {jp jd : Nat} {P : List Int} {D : List Bool} (h : RdK w wr w2 gb gw x y jp jd P D) {wn : World} {gg cap : Nat} {v : Bool} (ho : wn.ownsRow (w.heap.size + 1) 4 1 (.slice (some ⟨gg, 0, none⟩) (jd + 1) cap) (jd + 1) (boolsV D ++ [.bool v])) (hg : wr.grownBy wn y.ownBlock) (ha : y.ownBlock = some gg ∨ wr.heap.size ≤ gg) :
    RdK w (wn.setCell ⟨gb, 1, none⟩ (.slice (some ⟨gg, 0, none⟩) (jd + 1) cap)) w2 gb gw x (.slice (some ⟨gg, 0, none⟩) (jd + 1) cap) jp (jd + 1) P (D ++ [v]) := by
  have hb := h.bx.lt
  have hd := h.duo.pushD ho hg ha
  have hgb : gg ≠ gb := by
    rintro rfl
    rcases ha with ha | ha
    · exact h.ay ha
    · omega
  have hgw : gg ≠ gw := by
    rintro rfl
    rcases ha with ha | ha
    · exact h.vy ha
    · have := h.lz; omega
  have s1 := h.growD hg
  have s5 : wn.grownBy (wn.setCell ⟨gb, 1, none⟩ (.slice (some ⟨gg, 0, none⟩) (jd + 1) cap)) (some gb) := grown_set (p := ⟨gb, 1, none⟩) (World.grownBy.refl _ _) rfl _
  have n1 : Value.ownBlock (.slice (some ⟨gg, 0, none⟩) (jd + 1) cap) ≠ some gb := by rw [own_slice]; intro e; injection e with e; exact hgb e
  have n2 : Value.ownBlock (.slice (some ⟨gg, 0, none⟩) (jd + 1) cap) ≠ some gw := by rw [own_slice]; intro e; injection e with e; exact hgw e
  obtain ⟨gx, cx, ex, l1, l2, _, _⟩ := h.row2
  have bl := below_grown h.bl hg (fun k e => by rw [ex, own_slice] at e; injection e with e; omega)
  have lb := h.lb
  have sz := hg.size
  refine ⟨hd.past s5 h.ax n1, (h.rb.grown hg (fun e => by rw [ex, own_slice] at e; injection e with e; omega)).grown s5 (fun e => by injection e with e; omega), s1.put1 _, h.ax, n1, h.vx, n2, ?_, h.lb, h.lw, ?_, below_grown bl s5 (fun k e => by injection e with e; omega)⟩
  · have lw := h.lw
    have lz := h.lz
    exact ((s5.block gw (by omega) (fun e => by injection e with e; omega)).trans (hg.block gw h.lz (fun e => h.vy e.symm))).trans h.ww
  · have := s5.size
    have := h.lz
    omega

set_option maxRecDepth 100000 in
set_option maxHeartbeats 4000000 in
theorem readBuilding_any (s : ByteArray) (w : World) (hs : s.size ≤ 1048576) (env : Env Tryd.prog w) :
    Calls Tryd.prog 13 #[.string s] w (GivesBldC w (rdP s.data.toList) (rdD s.data.toList) (rdC s.data.toList)) := by
  obtain ⟨ii, hi0, hz0, hz1, hz2⟩ := info_parts Tryd.info2'
  have HF := Lib.hid (And.intro hi0 (And.intro hz0 (And.intro hz1 hz2)))
  clear hi0 hz0 hz1 hz2
  obtain ⟨jj, hi0, hz0, hz1, hz2⟩ := info_parts Tryd.info4'
  have HJ := Lib.hid (And.intro hi0 (And.intro hz0 (And.intro hz1 hz2)))
  clear hi0 hz0 hz1 hz2
  have HE := Lib.hid env
  clear env
  have HLN := Lib.hid (pcs_len s.data.toList)
  go_enter Tryd.func13, Tryd.ntmps13
  have b0 := ((((Below.refl w.heap.size w).alloc (Nat.le_refl _) (.cells #[.slice none 0 0, .slice none 0 0] 27)).alloc (by simp) (.cells #[.int .i64 (-1)] 2)).alloc (by simp; omega) (.cells #[.bool false] 4)).alloc (by simp; omega) (.cells #[.slice (some ⟨w.heap.size + 1, 0, none⟩) 1 1, .slice (some ⟨w.heap.size + 1 + 1, 0, none⟩) 1 1] 27)
  have d0 := Duo.new (w := w.alloc (.cells #[.slice none 0 0, .slice none 0 0] 27)) (base := w.heap.size + 1) (by simp) (-1) false
  simp only [World.size_alloc] at d0
  have k0 := ((((Cell2.new w 27 (.slice none 0 0) (.slice none 0 0)).alloc (.cells #[.int .i64 (-1)] 2)).alloc (.cells #[.bool false] 4)).alloc (.cells #[.slice (some ⟨w.heap.size + 1, 0, none⟩) 1 1, .slice (some ⟨w.heap.size + 1 + 1, 0, none⟩) 1 1] 27))
  have x0 := Cell2.new (((w.alloc (.cells #[.slice none 0 0, .slice none 0 0] 27)).alloc (.cells #[.int .i64 (-1)] 2)).alloc (.cells #[.bool false] 4)) 27 (.slice (some ⟨w.heap.size + 1, 0, none⟩) 1 1) (.slice (some ⟨w.heap.size + 1 + 1, 0, none⟩) 1 1)
  simp only [World.size_alloc] at x0
  have D0 := Lib.hid (d0.alloc (.cells #[.slice (some ⟨w.heap.size + 1, 0, none⟩) 1 1, .slice (some ⟨w.heap.size + 1 + 1, 0, none⟩) 1 1] 27))
  have K0 := Lib.hid k0
  have X0 := Lib.hid x0
  have B0 := Lib.hid b0
  clear b0 d0 k0 x0
  go_wp2_with fail
  refine (splitN_any s hs _ (HE.out.on B0.out)).mono ?_
  rintro e w2 ⟨n, c, ps, rfl, hn, hps, hlt2, hcells, b2⟩
  simp only [World.size_alloc] at hlt2 hcells ⊢
  have HP := Lib.hid hps
  have HCL := Lib.hid hcells
  have hnl : (pcs s.data.toList).length = n := by rw [← hps, ← hn]; unfold bytesOf; rw [List.length_map]
  have HNL := Lib.hid hnl
  have hn24 : n ≤ 24 := by rw [← hnl]; exact HLN.out
  have HPN := Lib.hid hn
  have KK : Hid (RdK w w2 w2 (w.heap.size + 1 + 1 + 1) (w.heap.size + 1 + 1 + 1 + 1) (.slice (some ⟨w.heap.size + 1, 0, none⟩) 1 1) (.slice (some ⟨w.heap.size + 1 + 1, 0, none⟩) 1 1) (0 + 1) (0 + 1) (prW (pcs s.data.toList) 0) (drW (pcs s.data.toList) 0)) := Lib.hid ⟨D0.out.below b2, K0.out.on b2, X0.out.on b2, (by rw [own_slice]; intro e; injection e with e; omega), (by rw [own_slice]; intro e; injection e with e; omega), (by rw [own_slice]; intro e; injection e with e; omega), (by rw [own_slice]; intro e; injection e with e; omega), rfl, by omega, by omega, hlt2, below_trans' B0.out b2⟩
  clear hps hcells hnl hn D0 K0 X0 B0 b2
  go_wp2
  go_loopw [16] (fun i wr => ∃ (k : Nat) (x y : Value), k ≤ n ∧ i = .int .i64 k ∧ Hid (RdK w wr w2 (w.heap.size + 1 + 1 + 1) (w.heap.size + 1 + 1 + 1 + 1) x y (k + 1) (k + 1) (prW (pcs s.data.toList) k) (drW (pcs s.data.toList) k)) ∧ Hid (∀ u ∈ (pcs s.data.toList).take k, goodW u = true)) (fun i _ => n - (intOf i).toNat)
  case atStart => exact ⟨0, _, _, Nat.zero_le _, rfl, KK, Lib.hid (by intro u hu; simp at hu)⟩
  case round =>
    obtain ⟨k, x, y, hk, rfl, HK, HA⟩ := hrel
    clear KK
    by_cases hlt : k < n
    · obtain ⟨p, hp⟩ : ∃ p, ps[k]? = some p := ⟨_, List.getElem?_eq_getElem (by rw [HPN.out]; exact hlt)⟩
      have hcr : wr.cell? ⟨w.heap.size + 1 + 1 + 1 + 1, k, none⟩ = some (.string p) := (cell_block HK.out.ww).trans (HCL.out k p hp)
      have HW := Lib.hid (bytes_at HP.out hp)
      have hps : p.size ≤ 1048576 := by rw [← bytes_len]; exact pcs_piece (by rw [bytes_len]; exact hs) HW.out
      clear hp
      go_wp2_with fail
      refine (readNode_any p _ hps (HE.out.on HK.out.bl)).mono ?_
      rintro e w3 ⟨pv, dv, rfl, hv, b3⟩
      have K3 := Lib.hid (HK.out.below b3)
      clear b3 HK hcr
      rcases hg : goodW p.data.toList with _ | _
      · have HY := Lib.hid (rd_no (pcs_bad HW.out hg))
        clear hg hv
        have f0 := K3.out.rb.thawed 0
        have f1 := K3.out.rb.thawed 1
        obtain ⟨p0, p1⟩ := K3.out.rb.cells
        go_wp2
        clear f0 f1 p0 p1
        have R := ((K3.out.rb.put0 (.slice none 0 0)).put1 (.slice none 0 0)).cells
        have s5 : (w3).grownBy (((w3).setCell ⟨w.heap.size, 0, none⟩ (.slice none 0 0)).setCell ⟨w.heap.size, 1, none⟩ (.slice none 0 0)) (some w.heap.size) := grown_set (p := ⟨w.heap.size, 1, none⟩) (grown_set (p := ⟨w.heap.size, 0, none⟩) (World.grownBy.refl _ _) rfl _) rfl _
        rw [HY.out.1, HY.out.2.1, HY.out.2.2]
        exact bodyPost_ret (v := .tuple #[.agg #[.slice none 0 0, .slice none 0 0], .int .i64 6]) (by simp [results, Tryd.results13, go_sem, R.1, R.2]) rfl ⟨_, _, _, _, _, _, rfl, BOwn.none, by omega, by omega, below_grown K3.out.bl s5 (fun g e => by injection e with e; omega)⟩
      have HG := Lib.hid hg
      have HV := Lib.hid (hv hg)
      clear hg hv
      obtain ⟨g1, c1, rfl, a1, a2, a3, a4⟩ := K3.out.row1
      obtain ⟨g2, c2, rfl, a5, a6, a7, a8⟩ := K3.out.row2
      obtain ⟨p0, p1⟩ := K3.out.bx.cells
      obtain ⟨_, _, e, o1⟩ := K3.out.duo.r1
      injection e with e1 e2 e3
      injection e1 with e1
      injection e1 with e1
      subst e1; subst e3
      have O1 := Lib.hid o1
      clear o1
      go_upto_region 9 with (at_builtin; refine wpList_append_lies _ rfl _ _ 24 rfl (w.heap.size + 1) 2 ii _ 1 8 Tryd.underlying24 HF.out.1 HF.out.2.1 HF.out.2.2.1 HF.out.2.2.2 rfl (by omega) _ _ _ rfl (rowBelow O1.out ((Below.refl _ _).alloc (Nat.le_refl _) _)) ⟨w3.heap.size, 0, none⟩ 1 1 [.int .i64 pv] rfl rfl (World.news_of_block (cs := #[.int .i64 pv]) (t := 2) (fr := (0, 0)) (heap_alloc_new w3 _)) (by simp [Value.oneCell']) (by omega) (by unfold maxLen; omega) (by omega) (by simp; omega) (w3.heap.size + 1) (by simp) ?_; intro gg cap wn hown1 hgrow hat hlt3; have KX := Lib.hid ((K3.out.alloc (.cells #[.int .i64 pv] 2)).growP hgrow); have f0 := KX.out.thawed 0; have z0 := KX.out.cells.1)
      have K4 := Lib.hid ((K3.out.alloc (.cells #[.int .i64 pv] 2)).pushP hown1 hgrow (hat.imp id (fun e => by rw [e]; simp)))
      clear hown1 hgrow hat hlt3 O1 K3 KX f0 z0 p0 p1
      generalize (wn.setCell ⟨w.heap.size + 1 + 1 + 1, 0, none⟩ (.slice (some ⟨gg, 0, none⟩) (k + 1 + 1) cap)) = w4 at K4 ⊢
      obtain ⟨gz, cz, ez, b1, b2', b3, b4⟩ := K4.out.row1
      injection ez with ez1 _ ez3
      injection ez1 with ez1
      injection ez1 with ez1
      subst ez1; subst ez3
      obtain ⟨gz2, cz2, ez, b5, b6, b7, b8⟩ := K4.out.row2
      injection ez with ez1 _ ez3
      injection ez1 with ez1
      injection ez1 with ez1
      subst ez1; subst ez3
      obtain ⟨p0, p1⟩ := K4.out.bx.cells
      obtain ⟨_, _, e, o2⟩ := K4.out.duo.r2
      injection e with e1 e2 e3
      injection e1 with e1
      injection e1 with e1
      subst e1; subst e3
      have O2 := Lib.hid o2
      clear o2
      go_wp2_with (at_builtin; refine wpList_append_lies _ rfl _ _ 25 rfl (w.heap.size + 1) 4 jj _ 1 1 Tryd.underlying25 HJ.out.1 HJ.out.2.1 HJ.out.2.2.1 HJ.out.2.2.2 rfl (by omega) _ _ _ rfl (rowBelow O2.out ((Below.refl _ _).alloc (Nat.le_refl _) _)) ⟨w4.heap.size, 0, none⟩ 1 1 [.bool dv] rfl rfl (World.news_of_block (cs := #[.bool dv]) (t := 4) (fr := (0, 0)) (heap_alloc_new w4 _)) (by simp [Value.oneCell']) (by omega) (by unfold maxLen; omega) (by omega) (by simp; omega) (w4.heap.size + 1) (by simp) ?_; intro gd capd wn2 hown1 hgrow hat hlt3; have KX := Lib.hid ((K4.out.alloc (.cells #[.bool dv] 4)).growD hgrow); have f1 := KX.out.thawed 1; have z1 := KX.out.cells.2)
      have K5 := Lib.hid ((K4.out.alloc (.cells #[.bool dv] 4)).pushD hown1 hgrow (hat.imp id (fun e => by rw [e]; simp)))
      clear hown1 hgrow hat hlt3 O2 K4 KX f1 z1 p0 p1
      have HA2 : Hid (∀ u ∈ (pcs s.data.toList).take (k + 1), goodW u = true) := Lib.hid (by
        obtain ⟨hk1, hk2⟩ := List.getElem?_eq_some_iff.1 HW.out
        intro u hu
        rw [List.take_succ_eq_append_getElem hk1, hk2] at hu
        rcases List.mem_append.1 hu with h | h
        · exact HA.out u h
        · rw [List.mem_singleton.1 h]; exact HG.out)
      have K6 : Hid (RdK w (wn2.setCell ⟨w.heap.size + 1 + 1 + 1, 1, none⟩ (.slice (some ⟨gd, 0, none⟩) (k + 1 + 1) capd)) w2 (w.heap.size + 1 + 1 + 1) (w.heap.size + 1 + 1 + 1 + 1) (.slice (some ⟨gg, 0, none⟩) (k + 1 + 1) cap) (.slice (some ⟨gd, 0, none⟩) (k + 1 + 1) capd) (k + 1 + 1) (k + 1 + 1) (prW (pcs s.data.toList) (k + 1)) (drW (pcs s.data.toList) (k + 1))) := Lib.hid (by
        rw [prW_succ HW.out, drW_succ HW.out, ← HV.out.1, ← HV.out.2]; exact K5.out)
      clear K5 HA
      go_roundw
      case rel => exact ⟨k + 1, _, _, by omega, by go_num, K6, HA2⟩
      case measure => simp [intOf]; omega
    · obtain rfl : k = n := by omega
      obtain ⟨g1, c1, rfl, a1, a2, a3, a4⟩ := HK.out.row1
      obtain ⟨g2, c2, rfl, a5, a6, a7, a8⟩ := HK.out.row2
      have HO : Hid (BOwn wr (w.heap.size + 1) wr.heap.size (some ⟨g1, 0, none⟩) (k + 1) (some ⟨g2, 0, none⟩) (k + 1) (prW (pcs s.data.toList) (pcs s.data.toList).length) (drW (pcs s.data.toList) (pcs s.data.toList).length)) := Lib.hid (by rw [HNL.out]; exact HK.out.duo.own)
      obtain ⟨p0, p1⟩ := HK.out.bx.cells
      rcases hbb : bldB (prW (pcs s.data.toList) (pcs s.data.toList).length) (drW (pcs s.data.toList) (pcs s.data.toList).length) with _ | _
      · have HY := Lib.hid (rd_no (pcs_no hbb))
        have HBB := Lib.hid hbb
        clear hbb
        go_wp2_with fail
        refine (isBuilding_any _ _ _ _ _ _ _ _ _ HO.out.bld (by omega) (by omega)).mono ?_
        rw [HBB.out]
        rintro e w6 ⟨rfl, b6⟩
        have K6 := Lib.hid (HK.out.below b6)
        clear b6 p0 p1 HK
        have f0 := K6.out.rb.thawed 0
        have f1 := K6.out.rb.thawed 1
        obtain ⟨p0, p1⟩ := K6.out.rb.cells
        go_wp2
        clear f0 f1 p0 p1
        have R := ((K6.out.rb.put0 (.slice none 0 0)).put1 (.slice none 0 0)).cells
        have s5 : (w6).grownBy (((w6).setCell ⟨w.heap.size, 0, none⟩ (.slice none 0 0)).setCell ⟨w.heap.size, 1, none⟩ (.slice none 0 0)) (some w.heap.size) := grown_set (p := ⟨w.heap.size, 1, none⟩) (grown_set (p := ⟨w.heap.size, 0, none⟩) (World.grownBy.refl _ _) rfl _) rfl _
        rw [HY.out.1, HY.out.2.1, HY.out.2.2]
        exact bodyPost_ret (v := .tuple #[.agg #[.slice none 0 0, .slice none 0 0], .int .i64 6]) (by simp [results, Tryd.results13, go_sem, R.1, R.2]) rfl ⟨_, _, _, _, _, _, rfl, BOwn.none, by omega, by omega, below_grown K6.out.bl s5 (fun g e => by injection e with e; omega)⟩
      have HY0 := pcs_yes (fun u hu => HA.out u (by rw [← HNL.out, List.take_length]; exact hu)) hbb
      have HY := Lib.hid (rd_yes HY0.1)
      have HE2 := Lib.hid HY0.2
      have HBB := Lib.hid hbb
      have h24 := (bld_tree hbb).2.2.1
      rw [show (prW (pcs s.data.toList) (pcs s.data.toList).length).length = k + 1 by unfold prW; rw [List.take_length, List.length_cons, List.length_map, HNL.out]] at h24
      clear hbb HY0
      go_wp2_with fail
      refine (isBuilding_any _ _ _ _ _ _ _ _ _ HO.out.bld (by omega) (by omega)).mono ?_
      rw [HBB.out]
      rintro e w6 ⟨rfl, b6⟩
      have K6 := Lib.hid (HK.out.below b6)
      have O6 := Lib.hid (HO.out.below b6)
      clear b6 p0 p1 HK HO
      have f0 := K6.out.rb.thawed 0
      have f1 := K6.out.rb.thawed 1
      obtain ⟨p0, p1⟩ := K6.out.rb.cells
      obtain ⟨q0, q1⟩ := K6.out.bx.cells
      go_wp2
      clear f0 f1 p0 p1 q0 q1
      have R := ((K6.out.rb.put0 (.slice (some ⟨g1, 0, none⟩) (k + 1) c1)).put1 (.slice (some ⟨g2, 0, none⟩) (k + 1) c2)).cells
      have s5 : w6.grownBy ((w6.setCell ⟨w.heap.size, 0, none⟩ (.slice (some ⟨g1, 0, none⟩) (k + 1) c1)).setCell ⟨w.heap.size, 1, none⟩ (.slice (some ⟨g2, 0, none⟩) (k + 1) c2)) (some w.heap.size) := grown_set (p := ⟨w.heap.size, 1, none⟩) (grown_set (p := ⟨w.heap.size, 0, none⟩) (World.grownBy.refl _ _) rfl _) rfl _
      rw [HY.out.1, HY.out.2.1, HY.out.2.2, ← HE2.out.1, ← HE2.out.2]
      have hO := O6.out.apart s5 (fun g e => by injection e with e; omega)
      exact bodyPost_ret (v := .tuple #[.agg #[.slice (some ⟨g1, 0, none⟩) (k + 1) c1, .slice (some ⟨g2, 0, none⟩) (k + 1) c2], .int .i64 0]) (by simp [results, Tryd.results13, go_sem, R.1, R.2]) rfl ⟨_, _, _, _, _, _, rfl, hO.more (by omega) hO.ps.size (Nat.le_refl _), by omega, by omega, below_grown K6.out.bl s5 (fun g e => by injection e with e; omega)⟩

end Go.Proofs.YtgbicepneonkfaaDoor
