/- KeyText of the model, and the law. -/
import Derived.Test.YtnblifpogbhjgaaKText
import Derived.Test.YtnblifpogbhjgaaLFault
namespace Go.Proofs.Ytnblifpogbhjgaa
open Go.RowKit

def signsV (xs : List Int) : List Value := xs.map (fun v => Value.int .u8 (48 + v))
theorem signsV_step {xs : List Int} {k : Nat} {v : Int} (hv : xs[k]? = some v) : signsV (xs.take k) ++ [.int .u8 (48 + v)] = signsV (xs.take (k + 1)) := by
  obtain ⟨hk, rfl⟩ := List.getElem?_eq_some_iff.1 hv
  unfold signsV
  rw [List.take_succ_eq_append_getElem hk, List.map_append]; rfl

set_option maxRecDepth 100000 in
set_option maxHeartbeats 2000000 in
theorem l02Text_any (A : Option Addr) (n c : Nat) (xs : List Int) (w : World) (h : Ints w w.heap.size A n xs) (hn : n ≤ 1048576) (hp : 0 < n) (hd : allIn 0 7 xs = true) :
    Calls Try.prog 74 #[.slice A n c] w (GivesText w (textK xs) 1048576) := by
  have HL := Lib.hid h.len
  have HD := Lib.hid hd
  clear hd
  obtain ⟨i0, hi, hz0, hz1, hz2⟩ := info_parts Try.info5'
  have HI := Lib.hid (And.intro hi (And.intro hz0 (And.intro hz1 hz2)))
  clear hi hz0 hz1 hz2
  go_enter Try.func74, Try.ntmps74
  go_wp2
  go_loopw [3, 4] (fun x i wr => ∃ k : Nat, k ≤ n ∧ i = .int .i64 k ∧ wr.ownsRow w.heap.size 5 1 x k (signsV (xs.take k)) ∧ Below w.heap.size w wr) (fun _ i _ => n - (intOf i).toNat)
  case atStart => exact ⟨0, Nat.zero_le _, rfl, rowNil (Nat.le_refl _), (Below.refl _ _).alloc (Nat.le_refl _) _⟩
  case round =>
    obtain ⟨k, hk, rfl, hown, hb⟩ := hrel
    have hsz := hb.size
    by_cases hlt : k < n
    · obtain ⟨ad, v, rfl, hab, hv, hc⟩ := (h.below hb).at_ hlt
      obtain ⟨v0, v1⟩ := allIn_at HD.out hv
      have HV := Lib.hid (signsV_step hv)
      have HO := Lib.hid hown
      have HB := Lib.hid hb
      clear hv hown hb
      have s4 : IntKind.u8.wrap (48 + v) = 48 + v := by rw [IntKind.wrap_u8]; omega
      go_wp2_with (at_builtin; refine wpList_append_lies _ rfl _ _ 22 rfl w.heap.size 5 i0 _ 1 1 Try.underlying22 HI.out.1 HI.out.2.1 HI.out.2.2.1 HI.out.2.2.2 rfl (by omega) _ k _ rfl (HO.out.alloc _) ⟨wr.heap.size, 0, none⟩ 1 1 [.int .u8 (48 + v)] rfl rfl (World.news_of_block (cs := #[.int .u8 (48 + v)]) (t := 5) (fr := (0, 0)) (heap_alloc_new wr _)) (by simp [Value.oneCell']) (by omega) (by unfold maxLen; omega) (by omega) (by simp; omega) (wr.heap.size + 1) (by simp) ?_; intro gg cap w5 hown1 hgrow hat hlt3)
      have R5 := Lib.hid hown1
      have B5 := Lib.hid ((HB.out.alloc hsz (.cells #[.int .u8 (48 + v)] 5)).grown hgrow (by simp; omega) (fun q e => by have := rowBase HO.out q e; omega))
      clear hown1 hgrow hat hlt3 HO HB s4
      go_wp2
      go_roundw
      case rel => exact ⟨k + 1, by omega, by go_num, by rw [← HV.out]; exact R5.out, B5.out⟩
      case measure => simp [intOf]; omega
    · obtain rfl : k = n := by omega
      obtain ⟨g, cap, rfl, hg, hg2⟩ := hown.form hp
      have hcell : ∀ j, j < k → wr.cell? ⟨g, j, none⟩ = some (.int .u8 (48 + xs.getD j 0)) := fun j hj => by
        have hv : xs[j]? = some (xs[j]'(by rw [HL.out]; exact hj)) := List.getElem?_eq_getElem _
        have := hown.cells (g := g) rfl j (.int .u8 (48 + xs.getD j 0)) (by
          unfold signsV
          rw [List.getElem?_map, List.getElem?_take, if_pos hj, hv, getD_at hv]; rfl)
        unfold Addr.add at this
        split at this
        · next h0 => subst h0; exact this
        · simpa using this
      obtain ⟨t, ht, hz, hcv⟩ := text_run (cap := cap) HL.out HD.out hcell
      have HZ := Lib.hid hz
      clear hz hcell hown
      go_wp2
      go_ret
      exact ⟨t, rfl, ht, by rw [HZ.out]; exact hn, hb⟩

theorem l02Code_any (m : Mk) (A : Option Addr) (n c : Nat) (xs : List Int) (w : World) (h : Ints w w.heap.size A n xs) (hn : n ≤ 1048576) (hc0 : n ≤ c) (hcm : c ≤ 9223372036854775807) :
    Calls Try.prog 73 #[.agg #[.int .i64 m.C, .int .i64 m.D, .int .i64 m.S, .int .i64 m.M, .int .i64 m.L], .slice A n c] w
      fun e w' => e = .returned (.int .i64 (ktE m xs)) ∧ Below w.heap.size w w' := by
  have b0 := (Below.refl w.heap.size w).alloc (Nat.le_refl _) (.cells #[.int .i64 m.C, .int .i64 m.D, .int .i64 m.S, .int .i64 m.M, .int .i64 m.L] 25)
  have hx := Boxed.new w 25 m
  rcases hm : m.ok with _ | _
  · rw [(kt_bad (xs := xs) hm).2]
    go_enter Try.func73, Try.ntmps73
    go_wp2_with fail
    refine (specIsMaker_any m _).mono ?_
    rw [hm]
    rintro e w1 ⟨rfl, b1⟩
    have c1 := below_trans' b0 b1
    go_wp2
    go_ret
    exact ⟨rfl, c1⟩
  have HM := Lib.hid hm
  clear hm
  rcases hk : isKeyB m xs with _ | _
  all_goals
    first
      | (rw [(kt_no HM.out hk).2]; have hf : (faultV m xs != 0) = true := by (unfold isKeyB at hk; rw [HM.out] at hk; simpa using hk))
      | (rw [(kt_yes HM.out hk).2]; have hf : (faultV m xs != 0) = false := by (unfold isKeyB at hk; rw [HM.out] at hk; simpa using hk))
    clear hk
    go_enter Try.func73, Try.ntmps73
    go_wp2_with fail
    refine (specIsMaker_any m _).mono ?_
    rw [HM.out]
    rintro e w1 ⟨rfl, b1⟩
    have x1 := hx.on b1
    have c1 := below_trans' b0 b1
    obtain ⟨q0, q1, q2, q3, q4⟩ := x1.cells
    clear hx b0 b1 x1
    go_wp2_with fail
    clear q0 q1 q2 q3 q4
    refine (l02Fault_any m _ _ _ xs _ (h.on c1) hn hc0 hcm HM.out).mono ?_
    rintro e w2 ⟨rfl, b2⟩
    have c2 := below_trans' c1 b2
    go_wp2
    go_ret
    exact ⟨rfl, c2⟩

theorem specKeyText_any (m : Mk) (A : Option Addr) (n c : Nat) (xs : List Int) (w : World) (h : Ints w w.heap.size A n xs) (hn : n ≤ 1048576) (hc0 : n ≤ c) (hcm : c ≤ 9223372036854775807) :
    Calls Try.prog 37 #[.agg #[.int .i64 m.C, .int .i64 m.D, .int .i64 m.S, .int .i64 m.M, .int .i64 m.L], .slice A n c] w
      (GivesTextE w (ktT m xs) (ktE m xs)) := by
  have HL := Lib.hid h.len
  have b0 := (Below.refl w.heap.size w).alloc (Nat.le_refl _) (.cells #[.int .i64 m.C, .int .i64 m.D, .int .i64 m.S, .int .i64 m.M, .int .i64 m.L] 25)
  have hx := Boxed.new w 25 m
  rcases hk : isKeyB m xs with _ | _
  · have hE : (ktE m xs != 0) = true := by
      unfold ktE; rw [hk]; split <;> rfl
    have hT : ktT m xs = [] := by unfold ktT; rw [hk]; rfl
    rw [hT]
    clear hT hk
    go_enter Try.func37, Try.ntmps37
    go_wp2_with fail
    refine (l02Code_any m _ _ _ xs _ (h.on b0) hn hc0 hcm).mono ?_
    rintro e w1 ⟨rfl, b1⟩
    have c1 := below_trans' b0 b1
    go_wp2
    go_ret2
    exact ⟨⟨#[]⟩, rfl, rfl, Nat.zero_le _, c1⟩
  · obtain ⟨f1, f2, f3, _, _, _⟩ := key_facts hk
    obtain ⟨m1, m2, m3, m4, m5, m6, m7, m8, m9, m10, m11⟩ := Mk.ok_true f1
    have hp : 0 < n := by rw [HL.out] at f2; omega
    have HD : Hid (allIn 0 7 xs = true) := Lib.hid (allIn_wide f3 (Int.le_refl _) (by omega))
    obtain ⟨e1, e2⟩ := kt_yes f1 hk
    rw [e1, e2]
    have HE := Lib.hid e2
    clear e1 e2 f1 f2 f3 hk
    go_enter Try.func37, Try.ntmps37
    go_wp2_with fail
    refine (l02Code_any m _ _ _ xs _ (h.on b0) hn hc0 hcm).mono ?_
    rw [HE.out]
    rintro e w1 ⟨rfl, b1⟩
    have c1 := below_trans' b0 b1
    clear b0 b1
    go_wp2_with fail
    refine (l02Text_any _ _ _ xs _ (h.on c1) hn hp HD.out).mono ?_
    rintro e w2 ⟨t, rfl, ht, hz, b2⟩
    have c2 := below_trans' c1 b2
    clear c1 b2
    go_wp2
    go_ret2
    exact ⟨t, rfl, ht, hz, c2⟩

theorem lawKeyText_any (m : Mk) (A : Option Addr) (n c : Nat) (xs : List Int) (w : World) (h : Ints w w.heap.size A n xs) :
    Calls Try.prog 13 #[.agg #[.int .i64 m.C, .int .i64 m.D, .int .i64 m.S, .int .i64 m.M, .int .i64 m.L], .slice A n c] w fun e w' => e = .returned (.bool true) ∧ Below w.heap.size w w' := by
  have hx0 := Boxed.new w 50 m
  have c0 := (Below.refl w.heap.size w).alloc (Nat.le_refl _) (.cells #[.int .i64 m.C, .int .i64 m.D, .int .i64 m.S, .int .i64 m.M, .int .i64 m.L] 50)
  by_cases hn : n ≤ 1048576
  · go_enter Try.func13, Try.ntmps13
    go_wp2_with fail
    refine (toMaker_any m _).mono ?_
    rintro e w1 ⟨rfl, b1⟩
    have x1 := hx0.on b1
    have c1 := below_trans' c0 b1
    clear hx0 c0 b1
    go_wp2_with fail
    refine (toInt64S_any _ _ _ xs _ (h.on c1) hn).mono ?_
    rintro e w2 ⟨g2, rfl, _, r2, b2⟩
    have i2 := Ints.of_row r2 h.len
    have x2 := x1.on b2
    have c2 := below_trans' c1 b2
    clear r2 b2 c1 x1
    go_wp2_with fail
    refine (specKeyText_any m _ _ _ xs _ i2 hn (Nat.le_refl _) (by omega)).mono ?_
    rintro e w3 ⟨t, rfl, ht, hz, b3⟩
    have x3 := x2.on b3
    have c3 := below_trans' c2 b3
    clear i2 b3 c2 x2
    go_wp2_with fail
    refine (toInt64S_any _ _ _ xs _ (h.on c3) hn).mono ?_
    rintro e w4 ⟨g4, rfl, _, r4, b4⟩
    have i4 := Ints.of_row r4 h.len
    have x4 := x3.on b4
    have c4 := below_trans' c3 b4
    clear r4 b4 c3 x3
    obtain ⟨q0, q1, q2, q3, q4⟩ := x4.cells
    clear x4
    go_wp2_with fail
    clear q0 q1 q2 q3 q4
    refine (toMaker_any m _).mono ?_
    rintro e w5 ⟨rfl, b5⟩
    have i5 := i4.on b5
    have c5 := below_trans' c4 b5
    clear i4 b5 c4
    go_wp2_with fail
    refine (keyText_any m _ _ _ xs _ i5 hn).mono ?_
    rintro e w6 ⟨t', rfl, ht', hz', b6⟩
    have i6 := i5.on b6
    have c6 := below_trans' c5 b6
    obtain rfl : t = t' := text_eq (by unfold Txt at ht ht'; rw [ht, ht'])
    clear i5 b6 c5 ht ht'
    have d2 : (ktE m xs != ktE m xs) = false := by simp
    go_wp2_with fail
    refine (toInt64S_any _ _ _ xs _ (h.on c6) hn).mono ?_
    rintro e w7 ⟨g7, rfl, _, r7, b7⟩
    have i7 := Ints.of_row r7 h.len
    have j7 := i6.on b7
    have c7 := below_trans' c6 b7
    clear r7 b7 c6 i6
    go_wp2_with fail
    refine (eqInts_true _ _ _ _ _ xs _ j7 i7 hn).mono ?_
    rintro e w8 ⟨rfl, b8⟩
    have c8 := below_trans' c7 b8
    go_wp2
    go_ret
    exact ⟨rfl, c8⟩
  · go_enter Try.func13, Try.ntmps13
    go_wp2
    go_ret
    exact ⟨rfl, c0⟩

end Go.Proofs.Ytnblifpogbhjgaa
