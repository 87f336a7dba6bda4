/- l02Next, NextKey and FirstKey of the model. -/
import Derived.Test.YtjoknbknhfnggaaSFirst
import Derived.Test.YtjoknbknhfnggaaNext
namespace Go.Proofs.Ytjoknbknhfnggaa
open Go.RowKit

theorem depth_take {m : Mk} {xs : List Int} (h : allIn 0 (m.D - 1) xs = true) (q : Nat) : allIn 0 (m.D - 1) (xs.take q) = true := by
  unfold allIn at *
  rw [List.all_eq_true] at *
  exact fun v hv => h v (List.mem_of_mem_take hv)

set_option maxRecDepth 100000 in
set_option maxHeartbeats 8000000 in
theorem l02Next_any (m : Mk) (hm : m.ok = true) (A : Option Addr) (n c : Nat) (xs : List Int) (w : World) (h : Ints w w.heap.size A n xs) (hnC : (n : Int) = m.C) (hc : n ≤ c) (hd : allIn 0 (m.D - 1) xs = true) :
    Calls Try.prog 110 #[.agg #[.int .i64 m.C, .int .i64 m.D, .int .i64 m.S, .int .i64 m.M, .int .i64 m.L], .slice A n c] w (FirstOk w w.heap.size (nextAll m xs)) := by
  obtain ⟨m1, m2, m3, m4, m5, m6, m7, m8, m9, m10, m11⟩ := Mk.ok_true hm
  have HM := Lib.hid hm
  have HN := Lib.hid hnC
  have hn6 : n ≤ 6 := by omega
  have hp : 0 < n := by omega
  have HD := Lib.hid hd
  have HL := Lib.hid h.len
  clear hm hnC hd
  obtain ⟨ad, _, rfl, hab, _, _⟩ := h.at_ hp
  have b0 := (Below.refl w.heap.size w).alloc (Nat.le_refl _) (.cells #[.int .i64 m.C, .int .i64 m.D, .int .i64 m.S, .int .i64 m.M, .int .i64 m.L] 25)
  have hx := Boxed.new w 25 m
  generalize hT : nextAll m xs = T
  have HT := Lib.hid (show T = down m xs 0 n by rw [← hT]; unfold nextAll; rw [HL.out])
  clear hT
  obtain ⟨i0, hi, hz0, hz1, hz2⟩ := info_parts Try.info2'
  have HF := Lib.hid (And.intro hi (And.intro hz0 (And.intro hz1 hz2)))
  clear hi hz0 hz1 hz2
  go_enter Try.func110, Try.ntmps110
  go_wp2
  go_loopw [6] (fun x wr => ∃ (r : Nat) (y : Int), x = .int .i64 y ∧ r ≤ n ∧ y + 1 = r ∧ Hid (T.head? = (down m xs 0 r).head?) ∧ Boxed wr w.heap.size 25 m ∧ Below w.heap.size w wr) (fun x _ => (intOf x + 1).toNat)
  case atStart => exact ⟨n, _, rfl, Nat.le_refl _, by omega, Lib.hid (by rw [HT.out]), hx, b0⟩
  case round =>
    obtain ⟨r, y, rfl, hr, hy, hall, hbox, hbl⟩ := hrel
    rcases r with _ | q
    · have HE : Hid (T = []) := Lib.hid (List.head?_eq_none_iff.1 hall.out)
      have hneg : y < 0 := by omega
      clear b0 hx hall
      go_wp2
      go_ret2
      exact ⟨none, 0, 0, false, [], rfl, Own.nil _ (Nat.le_refl _), by omega, by omega, by omega, hbl, .inr ⟨rfl, HE.out⟩⟩
    · obtain rfl : y = (q : Int) := by omega
      have hqn : q < n := by omega
      obtain ⟨_, v, e0, _, hv, hcell⟩ := (h.below hbl).at_ hqn
      obtain rfl := (by injection e0 : ad = _)
      clear e0
      obtain ⟨v0, v1⟩ := allIn_at HD.out hv
      obtain ⟨u, rfl⟩ := Int.eq_ofNat_of_zero_le v0
      have HA : Hid (down m xs 0 (q + 1) = tails m (n - 1 - q) (xs.take q) (u + 1) ++ down m xs 0 q) := Lib.hid (by
        show afterAt m xs (0 + q) ++ _ = _
        unfold afterAt
        rw [Nat.zero_add, HL.out, getD_at hv]; rfl)
      have HP := Lib.hid (show ((xs.take q).length = q) by rw [List.length_take, HL.out]; omega)
      obtain ⟨wo, rfl⟩ : ∃ wo : World, wo = wr := ⟨_, rfl⟩
      have X0 := Lib.hid hbox
      have B0 := Lib.hid hbl
      clear hv b0 hx hbox hbl
      go_wp2
      go_loopw [7] (fun x wr => ∃ d : Nat, x = .int .i64 d ∧ d ≤ 8 ∧ Hid (T.head? = (tails m (n - 1 - q) (xs.take q) d ++ down m xs 0 q).head?) ∧ Boxed wr w.heap.size 25 m ∧ Below w.heap.size w wr) (fun x _ => 9 - (intOf x).toNat)
      case atStart => exact ⟨u + 1, by go_num, by omega, Lib.hid (by rw [hall.out, HA.out]), X0.out, B0.out⟩
      case round =>
        obtain ⟨d, rfl, hd8, hall2, hbox, hbl⟩ := hrel
        clear hcell X0 B0
        obtain ⟨q0, q1, q2, q3, q4⟩ := hbox.cells
        have hsz := hbl.size
        by_cases hlt : (d : Int) < m.D
        · have hI := (h.below hbl).front (Nat.le_of_lt hqn)
          have HX := Lib.hid hbox
          have HBL := Lib.hid hbl
          have hlw := hbox.lt
          clear hbox hbl
          have e0 := World.new_ne wr ⟨w.heap.size, 0, none⟩ q0
          have e1 := World.new_ne wr ⟨w.heap.size, 1, none⟩ q1
          have e2 := World.new_ne wr ⟨w.heap.size, 2, none⟩ q2
          have e3 := World.new_ne wr ⟨w.heap.size, 3, none⟩ q3
          have e4 := World.new_ne wr ⟨w.heap.size, 4, none⟩ q4
          have j0 : (0 : Int) ≤ (q : Int) := by omega
          have j1 : (q : Int) ≤ (c : Int) := by omega
          have HFI := Lib.hid (l02First_any m HM.out (n - 1 - q))
          go_wp2
          go_region_held3 (fun w' => w'.cell? ⟨w.heap.size, 0, none⟩ = some (.int .i64 m.C) ∧ w'.cell? ⟨w.heap.size, 1, none⟩ = some (.int .i64 m.D) ∧ w'.cell? ⟨w.heap.size, 2, none⟩ = some (.int .i64 m.S) ∧ w'.cell? ⟨w.heap.size, 3, none⟩ = some (.int .i64 m.M) ∧ w'.cell? ⟨w.heap.size, 4, none⟩ = some (.int .i64 m.L))
            (first
              | go_keep
              | exact ⟨(b2.cell (p := ⟨w.heap.size, 0, none⟩) hlw).trans q0, (b2.cell (p := ⟨w.heap.size, 1, none⟩) hlw).trans q1, (b2.cell (p := ⟨w.heap.size, 2, none⟩) hlw).trans q2, (b2.cell (p := ⟨w.heap.size, 3, none⟩) hlw).trans q3, (b2.cell (p := ⟨w.heap.size, 4, none⟩) hlw).trans q4⟩
              | exact XZ.out.cells
              | exact X5.out.cells
              | exact X6.out.cells)
            (first
              | (go_at_call 120; refine (l01Own_some ad q c (xs.take q) _ (ints_drewN (hI.more (Nat.le_of_lt hlw)) 1) (by omega)).mono ?_; rintro e w2 ⟨v2, rfl, r2, b2⟩; have X2 := Lib.hid ((HX.out.drewN 1).on b2))
              | (refine step_append_lies _ (by rfl) _ _ _ (by rfl) wr.heap.size 2 i0 _ 1 8 Try.underlying39 HF.out.1 HF.out.2.1 HF.out.2.2.1 HF.out.2.2.2 rfl (by omega) v2 q (intsV (xs.take q)) (by rfl) (r2.alloc _) ⟨w2.heap.size, 0, none⟩ 1 1 [.int .i64 (d : Int)] (by rfl) (by rfl) (World.news_of_block (cs := #[.int .i64 (d : Int)]) (t := 2) (fr := (0, 0)) (heap_alloc_new w2 _)) (by simp [Value.oneCell']) (by omega) (by unfold maxLen; omega) (by omega) (by have := b2.size; simp at this ⊢; omega) (w2.heap.size + 1) (by simp) ?_; intro gg cap w5 hown1 hgrow hat hlt3; have X5 := Lib.hid ((X2.out.alloc (.cells #[.int .i64 (d : Int)] 2)).grown hgrow (by intro e; have := rowBase r2 _ e.symm; simp at this; omega)); have B5 := Lib.hid ((((below_drewN HBL.out 1).trans (b2.mono HBL.out.size)).alloc (by have := b2.size; simp at this; omega) (.cells #[.int .i64 (d : Int)] 2)).grown hgrow (by have := b2.size; simp at this ⊢; omega) (fun q e => by have := rowBase r2 q e; simp at this; omega)))
              | (go_at_call 111; have hrow5 := hown1; rw [intsV_snoc] at hrow5; obtain ⟨ho5, hc5, hm5⟩ := rowIntsAt hrow5 (by rw [List.length_append, HP.out]; rfl); refine (HFI.out (some ⟨gg, 0, none⟩) (q + 1) cap (xs.take q ++ [(d : Int)]) wr.heap.size w5 (by have := HN.out; omega) ho5 (by have := hgrow.size; have := b2.size; simp at *; omega) hc5 hm5 (by simp) (depth_snoc (depth_take HD.out q) hlt)).mono ?_; rintro e w6 ⟨A6, n6, c6, ok, ys, rfl, o6, hn6', hc6, hm6, b6, t6⟩; have X6 := Lib.hid (X5.out.on b6))
              | (go_at_call 120; refine (l01Own_some ad q c (xs.take q) _ (ints_drewN (hI.alloc (Nat.le_of_lt hlw) (.cells #[.int .i64 (d : Int)] 2)) 1) (by omega)).mono ?_; rintro e wz ⟨vz, rfl, rz, bz⟩; have XZ := Lib.hid (((HX.out.alloc (.cells #[.int .i64 (d : Int)] 2)).drewN 1).on bz))
              | (refine step_append_lies _ (by rfl) _ _ _ (by rfl) wr.heap.size 2 i0 _ 1 8 Try.underlying39 HF.out.1 HF.out.2.1 HF.out.2.2.1 HF.out.2.2.2 rfl (by omega) vz q (intsV (xs.take q)) (by rfl) (rowMore rz (by simp)) ⟨wr.heap.size, 0, none⟩ 1 1 [.int .i64 (d : Int)] (by rfl) (by rfl) (news_behind bz) (by simp [Value.oneCell']) (by omega) (by unfold maxLen; omega) (by omega) (by have := bz.size; simp at this ⊢; omega) wz.heap.size rfl ?_; intro gg cap w5 hown1 hgrow hat hlt3; have X5 := Lib.hid (XZ.out.grown hgrow (by intro e; have := rowBase rz _ e.symm; simp at this; omega)); have B5 := Lib.hid (((below_drewN (HBL.out.alloc HBL.out.size (.cells #[.int .i64 (d : Int)] 2)) 1).trans (bz.mono (by simp; omega))).grown hgrow (by have := bz.size; simp at this ⊢; omega) (fun q e => by have := rowBase rz q e; simp at this; omega)))
              | (go_at_call 111; have hrow5 := hown1; rw [intsV_snoc] at hrow5; obtain ⟨ho5, hc5, hm5⟩ := rowIntsAt hrow5 (by rw [List.length_append, HP.out]; rfl); refine (HFI.out (some ⟨gg, 0, none⟩) (q + 1) cap (xs.take q ++ [(d : Int)]) wr.heap.size w5 (by have := HN.out; omega) ho5 (by have := hgrow.size; have := bz.size; simp at *; omega) hc5 hm5 (by simp) (depth_snoc (depth_take HD.out q) hlt)).mono ?_; rintro e w6 ⟨A6, n6, c6, ok, ys, rfl, o6, hn6', hc6, hm6, b6, t6⟩; have X6 := Lib.hid (X5.out.on b6)))
          all_goals
            have B6 := Lib.hid (B5.out.trans (b6.mono (by have := B5.out.size; exact this)))
            have O6 := Lib.hid (o6.more (show w.heap.size ≤ wr.heap.size by omega) (Nat.le_refl _) (Nat.le_refl _))
            have HTS := Lib.hid (tails_step (m := m) (k := n - 1 - q) (xs := xs.take q) (d := d) (by omega))
            clear q0 q1 q2 q3 q4 e0 e1 e2 e3 e4 hown1 hgrow hat hlt3 b6 o6 X5 B5 j0 j1
            rcases t6 with ⟨rfl, t6⟩ | ⟨rfl, t6⟩
            · have HG : Hid (T.head? = some ys) := Lib.hid (by rw [hall2.out, HTS.out, List.append_assoc, List.head?_append, t6]; rfl)
              clear t6
              go_wp2
              go_ret2
              exact ⟨A6, n6, c6, true, ys, rfl, O6.out, hn6', hc6, hm6, B6.out, .inl ⟨rfl, HG.out⟩⟩
            · have HG := Lib.hid t6
              clear t6
              go_wp2
              go_roundw
              case rel => exact ⟨d + 1, by go_num, by omega, Lib.hid (by rw [hall2.out, HTS.out, HG.out]; rfl), X6.out, B6.out⟩
              case measure => simp [intOf]; omega
        · have HE : Hid (T.head? = (down m xs 0 q).head?) := Lib.hid (by
            have h1 := hall2.out
            rwa [tails_end (m := m) (k := n - 1 - q) (xs := xs.take q) (d := d) (by omega), List.nil_append] at h1)
          have HX := Lib.hid hbox
          clear hall2 hbox
          go_wp2
          go_roundw
          case rel => exact ⟨q, _, rfl, by omega, by omega, HE, HX.out, hbl⟩
          case measure => simp [intOf] <;> omega

end Go.Proofs.Ytjoknbknhfnggaa
