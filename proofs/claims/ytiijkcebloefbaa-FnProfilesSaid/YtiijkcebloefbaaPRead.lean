/- ProfileText and ReadProfile of the program and of the model, and their laws: the walks. -/
import Derived.Test.YtiijkcebloefbaaPText
namespace Go.Proofs.Ytiijkcebloefbaa
open Go.RowKit

/-- what a call answers that gives a text and a code -/
def GivesPText (w : World) (l : List UInt8) (code : Int) (e : Ending) (w' : World) : Prop := ∃ t : ByteArray, e = .returned (.tuple #[.string t, .int .i64 code]) ∧ Txt t l ∧ t.size ≤ 12 ∧ Below w.heap.size w w'

theorem profileText_any (n : Int) (w : World) :
    Calls Try.prog 19 #[.int .i64 n] w (GivesPText w (ptT n) (ptE n)) := by
  rcases hq : inB n 0 4095 with _ | _
  · rw [(pt_no hq).1, (pt_no hq).2]
    go_enter Try.func19, Try.ntmps19
    go_wp2_with (go_at_call 42; refine (isProfile_any _ _).mono ?_; rintro e w' ⟨rfl, rfl⟩)
    go_ret2
    exact ⟨⟨#[]⟩, rfl, rfl, Nat.zero_le _, Below.refl _ _⟩
  · rw [(pt_yes hq).1, (pt_yes hq).2]
    obtain ⟨n0, n1⟩ := inB_true.1 hq
    obtain ⟨N, rfl⟩ := Int.eq_ofNat_of_zero_le n0
    have hN : N < 4096 := by omega
    rw [Int.toNat_natCast]
    go_enter Try.func19, Try.ntmps19
    go_wp2_with (first | (go_at_call 42; refine (isProfile_any _ _).mono ?_; rintro e w' ⟨rfl, rfl⟩) | (go_at_call 48; refine (text_any N _ hN).mono ?_; rintro e w' ⟨t, rfl, ht, hz, hb⟩))
    go_ret2
    exact ⟨t, rfl, ht, hz, hb⟩

/-- the marks of a text as cells of a row, the first j of them -/
def marksV (n j : Nat) : List Value := ((List.range 12).take j).map (fun i => Value.int .u8 (markI (n.testBit (11 - i))))
theorem marksV_step {n j : Nat} {x : Int} (hj : j < 12) (hx : markI (n.testBit (11 - j)) = x) : marksV n j ++ [.int .u8 x] = marksV n (j + 1) := by
  unfold marksV
  rw [List.take_succ_eq_append_getElem (by simpa using hj), List.map_append, List.getElem_range, List.map_cons, List.map_nil, hx]
theorem marksV_at {n i : Nat} (hi : i < 12) : (marksV n 12)[i]? = some (.int .u8 (markI (n.testBit (11 - i)))) := by
  unfold marksV
  rw [List.take_of_length_le (by simp), List.getElem?_map, List.getElem?_range hi]; rfl

set_option maxRecDepth 100000 in
set_option maxHeartbeats 2000000 in
theorem l06Text_any (n : Nat) (w : World) (hn : n < 4096) :
    Calls Try.prog 49 #[.int .i64 (n : Int)] w (GivesText w (tx 12 n) 12) := by
  obtain ⟨i0, hi, hz0, hz1, hz2⟩ := info_parts Try.info5'
  have HI := Lib.hid (And.intro hi (And.intro hz0 (And.intro hz1 hz2)))
  clear hi hz0 hz1 hz2
  go_enter Try.func49, Try.ntmps49
  go_wp2
  go_loopw [3, 4] (fun x i wr => ∃ k : Nat, k ≤ 12 ∧ i = .int .i64 (11 - (k : Int)) ∧ wr.ownsRow w.heap.size 5 1 x k (marksV n k) ∧ Hid (Below w.heap.size w wr)) (fun _ i _ => (intOf i + 1).toNat)
  case atStart => exact ⟨0, Nat.zero_le _, by go_num, rowNil (Nat.le_refl _), Lib.hid ((Below.refl _ _).alloc (Nat.le_refl _) _)⟩
  case round =>
    obtain ⟨k, hk, rfl, hown, hb⟩ := hrel
    have hsz := hb.out.size
    have HO := Lib.hid hown
    by_cases hlt : k < 12
    · obtain ⟨p, hp⟩ : ∃ p, k + p = 11 := ⟨11 - k, by omega⟩
      have hp' : 11 - k = p := by omega
      have s2 : (11 - (k : Int)) = (p : Int) := by omega
      have ho := bit64 n p hn
      have HP := Lib.hid hp'
      have HK := Lib.hid s2
      have p1 : (p : Int) ≤ 11 := by omega
      have hge : (0 : Int) ≤ (p : Int) := by omega
      rw [s2]
      clear hown hp' hp s2
      rcases hbit : n.testBit p with _ | _
      · rw [hbit] at ho
        have HX : Hid (markI (n.testBit (11 - k)) = 46) := Lib.hid (by rw [HP.out, hbit]; rfl)
        clear hbit
        go_wp2_with (at_builtin; refine wpList_append_lies _ rfl _ _ 22 rfl w.heap.size 5 i0 _ 1 1 Try.underlying22 HI.out.1 HI.out.2.1 HI.out.2.2.1 HI.out.2.2.2 rfl (by omega) _ k _ rfl (HO.out.alloc _) ⟨wr.heap.size, 0, none⟩ 1 1 [.int .u8 46] rfl rfl (World.news_of_block (cs := #[.int .u8 46]) (t := 5) (fr := (0, 0)) (heap_alloc_new wr _)) (by simp [Value.oneCell']) (by omega) (by unfold maxLen; omega) (by omega) (by simp; omega) (wr.heap.size + 1) (by simp) ?_; intro gg cap w5 hown1 hgrow hat hlt3)
        have R5 := Lib.hid hown1
        have B5 := Lib.hid ((hb.out.alloc hsz (.cells #[.int .u8 46] 5)).grown hgrow (by simp; omega) (fun q e => by have := rowBase HO.out q e; omega))
        clear hown1 hgrow hat hlt3 HO
        go_wp2
        go_roundw
        case rel => exact ⟨k + 1, by omega, by have := HK.out; go_num, by rw [← marksV_step hlt HX.out]; exact R5.out, B5⟩
        case measure => have := HK.out; simp [intOf]
      · rw [hbit] at ho
        have HX : Hid (markI (n.testBit (11 - k)) = 35) := Lib.hid (by rw [HP.out, hbit]; rfl)
        clear hbit
        go_wp2_with (at_builtin; refine wpList_append_lies _ rfl _ _ 22 rfl w.heap.size 5 i0 _ 1 1 Try.underlying22 HI.out.1 HI.out.2.1 HI.out.2.2.1 HI.out.2.2.2 rfl (by omega) _ k _ rfl (HO.out.alloc _) ⟨wr.heap.size, 0, none⟩ 1 1 [.int .u8 35] rfl rfl (World.news_of_block (cs := #[.int .u8 35]) (t := 5) (fr := (0, 0)) (heap_alloc_new wr _)) (by simp [Value.oneCell']) (by omega) (by unfold maxLen; omega) (by omega) (by simp; omega) (wr.heap.size + 1) (by simp) ?_; intro gg cap w5 hown1 hgrow hat hlt3)
        have R5 := Lib.hid hown1
        have B5 := Lib.hid ((hb.out.alloc hsz (.cells #[.int .u8 35] 5)).grown hgrow (by simp; omega) (fun q e => by have := rowBase HO.out q e; omega))
        clear hown1 hgrow hat hlt3 HO
        go_wp2
        go_roundw
        case rel => exact ⟨k + 1, by omega, by have := HK.out; go_num, by rw [← marksV_step hlt HX.out]; exact R5.out, B5⟩
        case measure => have := HK.out; simp [intOf]
    · obtain rfl : k = 12 := by omega
      obtain ⟨g, cap, rfl, hg, hg2⟩ := hown.form (by omega)
      have hcell : ∀ j, j < 12 → wr.cell? ⟨g, j, none⟩ = some (.int .u8 (markI (n.testBit (11 - j)))) := fun j hj => by
        have := hown.cells (g := g) rfl j _ (marksV_at hj)
        unfold Addr.add at this
        split at this
        · next h0 => subst h0; exact this
        · simpa using this
      obtain ⟨t, ht, hz, hcv⟩ := mark_run (cap := cap) hcell
      have HZ := Lib.hid hz
      clear hz hcell hown HO
      go_wp2
      go_ret
      exact ⟨t, rfl, ht, by rw [HZ.out]; omega, hb.out⟩

theorem specProfileText_any (n : Int) (w : World) :
    Calls Try.prog 20 #[.int .i64 n] w (GivesPText w (ptT n) (ptE n)) := by
  rcases hq : inB n 0 4095 with _ | _
  · rw [(pt_no hq).1, (pt_no hq).2]
    go_enter Try.func20, Try.ntmps20
    go_wp2_with (go_at_call 45; refine (l06Profile_any _ _).mono ?_; rintro e w' ⟨rfl, rfl⟩)
    go_ret2
    exact ⟨⟨#[]⟩, rfl, rfl, Nat.zero_le _, Below.refl _ _⟩
  · rw [(pt_yes hq).1, (pt_yes hq).2]
    obtain ⟨n0, n1⟩ := inB_true.1 hq
    obtain ⟨N, rfl⟩ := Int.eq_ofNat_of_zero_le n0
    have hN : N < 4096 := by omega
    rw [Int.toNat_natCast]
    go_enter Try.func20, Try.ntmps20
    go_wp2_with (first | (go_at_call 45; refine (l06Profile_any _ _).mono ?_; rintro e w' ⟨rfl, rfl⟩) | (go_at_call 49; refine (l06Text_any N _ hN).mono ?_; rintro e w' ⟨t, rfl, ht, hz, hb⟩))
    go_ret2
    exact ⟨t, rfl, ht, hz, hb⟩

theorem lawProfileText_any (n : Int) (w : World) :
    Calls Try.prog 9 #[.int .i64 n] w fun e w' => e = .returned (.bool true) ∧ Below w.heap.size w w' := by
  have d2 : (ptE n != ptE n) = false := by simp
  go_enter Try.func9, Try.ntmps9
  go_wp2_with fail
  refine (specProfileText_any n _).mono ?_
  rintro e w1 ⟨t, rfl, ht, _, b1⟩
  go_wp2_with fail
  refine (profileText_any n _).mono ?_
  rintro e w2 ⟨t', rfl, ht', _, b2⟩
  obtain rfl : t = t' := text_eq (by unfold Txt at ht ht'; rw [ht, ht'])
  have c2 := below_trans' b1 b2
  clear b1 b2 ht ht'
  go_wp2
  go_ret
  exact ⟨rfl, c2⟩

theorem or_nat64 (a b : Nat) (ha : a < 4096) (hb : b < 4096) : bits .or .i64 (a : Int) (b : Int) = ((a ||| b : Nat) : Int) := by
  have h : a ||| b < 4096 := Nat.or_lt_two_pow (n := 12) ha hb
  unfold bits
  show IntKind.i64.wrap (((BitVec.ofInt 64 (a : Int)) ||| (BitVec.ofInt 64 (b : Int))).toNat : Int) = _
  rw [BitVec.toNat_or, BitVec.ofInt_natCast, BitVec.ofInt_natCast, BitVec.toNat_ofNat, BitVec.toNat_ofNat, Nat.mod_eq_of_lt (by omega), Nat.mod_eq_of_lt (by omega), IntKind.wrap_i64]
  omega
theorem or_one (v : Nat) (h : v < 2048) : bits .or .i64 ((v : Int) * 2) 1 = 2 * (v : Int) + 1 := by
  have e : (v : Int) * 2 = ((v * 2 : Nat) : Int) := by omega
  have h1 : ((1 : Nat) : Int) = 1 := rfl
  rw [e, ← h1, or_nat64 _ _ (by omega) (by omega), nat_join 1 (v * 2) 1 (by omega) (by omega)]
  omega
theorem byte_at {s : ByteArray} {k : Nat} (hk : k < s.size) : s.data.toList[k]? = some s[k] := by
  rw [List.getElem?_eq_getElem (by rw [Array.length_toList]; exact hk)]; rfl
theorem byte_eq (b : UInt8) (c : UInt8) : ((b.toNat : Int) == (c.toNat : Int)) = decide (b = c) := by
  by_cases h : b = c
  · subst h; simp
  · rw [decide_eq_false h]
    simp
    intro e
    exact h (UInt8.toNat_inj.1 (by omega))

set_option maxRecDepth 100000 in
set_option maxHeartbeats 2000000 in
theorem readProfile_any (s : ByteArray) (w : World) :
    Calls Try.prog 22 #[.string s] w fun e w' => e = .returned (.tuple #[.int .i64 (rpV s.data.toList), .int .i64 (rpE s.data.toList)]) ∧ w = w' := by
  by_cases hsz : s.size = 12
  · have HZ := Lib.hid hsz
    have hz' : ((s.size : Int) != 12) = false := by rw [hsz]; rfl
    have hz1 : (s.size : Int) = 12 := by omega
    clear hsz
    go_enter Try.func22, Try.ntmps22
    go_wp2
    clear hz' hz1
    go_loop [4, 9] (fun v i => ∃ k : Nat, k ≤ 12 ∧ i = .int .i64 k ∧ v = .int .i64 (tv (s.data.toList.take k) : Nat) ∧ Hid ((s.data.toList.take k).all isMark = true)) (fun _ i => 12 - (intOf i).toNat)
    case atStart => exact ⟨0, Nat.zero_le _, rfl, rfl, Lib.hid rfl⟩
    case round =>
      obtain ⟨k, hk, rfl, rfl, hall⟩ := hrel
      by_cases hlt : k < 12
      · have hks : k < s.size := by rw [HZ.out]; exact hlt
        have hv := tv_lt s.data.toList k
        have hpow : 2 ^ k ≤ 2048 := by
          have : 2 ^ k ≤ 2 ^ 11 := Nat.pow_le_pow_right (by omega) (by omega)
          exact this
        have hat := byte_at hks
        have HT := Lib.hid (tv_step hat)
        have HAT := Lib.hid hat
        obtain ⟨v, hve⟩ : ∃ v, tv (s.data.toList.take k) = v := ⟨_, rfl⟩
        rw [hve] at hv HT ⊢
        have hv2 : v < 2048 := by omega
        have ho := or_one v (by omega)
        have sh : IntKind.i64.wrap ((v : Int) * 2) = (v : Int) * 2 := by rw [IntKind.wrap_i64]; omega
        obtain ⟨b, hbe⟩ : ∃ b, s[k] = b := ⟨_, rfl⟩
        have HB := Lib.hid hbe
        have e35 := byte_eq b 35
        have e46 := byte_eq b 46
        have t35 : ((35 : UInt8).toNat : Int) = 35 := rfl
        have t46 : ((46 : UInt8).toNat : Int) = 46 := rfl
        rw [t35] at e35
        rw [t46] at e46
        clear t35 t46 hat hv hpow hve
        by_cases h35 : b = 35
        · rw [decide_eq_true h35] at e35
          have HM : Hid (isMark b = true) := Lib.hid (by rw [h35]; rfl)
          have HV : Hid (tv (s.data.toList.take (k + 1)) = 2 * v + 1) := Lib.hid (by rw [HT.out, hbe, if_pos h35])
          clear h35 e46
          go_wp2
          go_round
          case rel => exact ⟨k + 1, by omega, by go_num, by rw [HV.out]; go_num, Lib.hid (by rw [List.take_succ_eq_append_getElem (by rw [Array.length_toList]; exact hks), List.all_append, hall.out]; have := (List.getElem?_eq_some_iff.1 HAT.out).2; rw [this, HB.out]; simp [HM.out])⟩
          case measure => simp [intOf]; omega
        rw [decide_eq_false h35] at e35
        by_cases h46 : b = 46
        · rw [decide_eq_true h46] at e46
          have HM : Hid (isMark b = true) := Lib.hid (by rw [h46]; rfl)
          have HV : Hid (tv (s.data.toList.take (k + 1)) = 2 * v) := Lib.hid (by rw [HT.out, hbe, if_neg h35]; rfl)
          clear h35 h46
          go_wp2
          go_round
          case rel => exact ⟨k + 1, by omega, by go_num, by rw [HV.out]; go_num, Lib.hid (by rw [List.take_succ_eq_append_getElem (by rw [Array.length_toList]; exact hks), List.all_append, hall.out]; have := (List.getElem?_eq_some_iff.1 HAT.out).2; rw [this, HB.out]; simp [HM.out])⟩
          case measure => simp [intOf]; omega
        rw [decide_eq_false h46] at e46
        have HN := Lib.hid (rp_no (okP_mark HAT.out (by rw [hbe]; unfold isMark; simp [h35, h46])))
        clear h35 h46
        go_wp2
        go_ret2
        exact ⟨ret_int2 HN.out.1.symm HN.out.2.symm, rfl⟩
      · obtain rfl : k = 12 := by omega
        have HL : Hid (s.data.toList.length = 12) := Lib.hid (by rw [Array.length_toList]; exact HZ.out)
        have HTK : Hid (s.data.toList.take 12 = s.data.toList) := Lib.hid (List.take_of_length_le (by rw [HL.out]; omega))
        have HY := Lib.hid (rp_yes (l := s.data.toList) (by unfold okP; rw [HL.out, ← HTK.out, hall.out]; rfl))
        go_wp2
        go_ret2
        exact ⟨ret_int2 (by rw [HTK.out, HY.out.1]) HY.out.2.symm, rfl⟩
  · have hz' : ((s.size : Int) != 12) = true := by simp; omega
    have HN := Lib.hid (rp_no (l := s.data.toList) (okP_size (by rw [Array.length_toList]; exact hsz)))
    rw [HN.out.1, HN.out.2]
    clear hsz
    go_enter Try.func22, Try.ntmps22
    go_wp2
    go_ret2
    exact ⟨rfl, rfl⟩

set_option maxRecDepth 100000 in
set_option maxHeartbeats 2000000 in
theorem specReadProfile_any (s : ByteArray) (w : World) (hs : s.size ≤ 1048576) :
    Calls Try.prog 23 #[.string s] w fun e w' => e = .returned (.tuple #[.int .i64 (rpV s.data.toList), .int .i64 (rpE s.data.toList)]) ∧ Below w.heap.size w w' := by
  go_enter Try.func23, Try.ntmps23
  go_wp2
  go_loop [4, 5] (fun v i => ∃ k : Nat, k ≤ 12 ∧ k ≤ s.size ∧ i = .int .i64 k ∧ v = .int .i64 (tv (s.data.toList.take k) : Nat)) (fun _ i => 12 - (intOf i).toNat)
  case atStart => exact ⟨0, Nat.zero_le _, Nat.zero_le _, rfl, rfl⟩
  case round =>
    obtain ⟨k, hk, hks', rfl, rfl⟩ := hrel
    have hv := tv_lt s.data.toList k
    by_cases hks : k < s.size
    · by_cases hlt : k < 12
      · have hpow : 2 ^ k ≤ 2048 := by
          have : 2 ^ k ≤ 2 ^ 11 := Nat.pow_le_pow_right (by omega) (by omega)
          exact this
        have hat := byte_at hks
        have HT := Lib.hid (tv_step hat)
        obtain ⟨v, hve⟩ : ∃ v, tv (s.data.toList.take k) = v := ⟨_, rfl⟩
        rw [hve] at hv HT ⊢
        have hv2 : v < 2048 := by omega
        obtain ⟨b, hbe⟩ : ∃ b, s[k] = b := ⟨_, rfl⟩
        have e35 := byte_eq b 35
        have t35 : ((35 : UInt8).toNat : Int) = 35 := rfl
        rw [t35] at e35
        clear t35 hat hv hpow hve
        by_cases h35 : b = 35
        · rw [decide_eq_true h35] at e35
          have HV : Hid (tv (s.data.toList.take (k + 1)) = 2 * v + 1) := Lib.hid (by rw [HT.out, hbe, if_pos h35])
          clear h35
          go_wp2
          go_round
          case rel => exact ⟨k + 1, by omega, by omega, by go_num, by rw [HV.out]; go_num⟩
          case measure => simp [intOf]; omega
        · rw [decide_eq_false h35] at e35
          have HV : Hid (tv (s.data.toList.take (k + 1)) = 2 * v) := Lib.hid (by rw [HT.out, hbe, if_neg h35]; rfl)
          clear h35
          go_wp2
          go_round
          case rel => exact ⟨k + 1, by omega, by omega, by go_num, by rw [HV.out]; go_num⟩
          case measure => simp [intOf]; omega
      · obtain rfl : k = 12 := by omega
        have hv2 : tv (s.data.toList.take 12) < 4096 := hv
        have HQ := Lib.hid (okP_iff s.data.toList)
        have HTK : Hid (okP s.data.toList = true → tv (s.data.toList.take 12) = tv s.data.toList) := Lib.hid (fun h => by
          unfold okP at h
          rw [Bool.and_eq_true, decide_eq_true_eq] at h
          rw [List.take_of_length_le (by omega)])
        obtain ⟨v, hve⟩ : ∃ v, tv (s.data.toList.take 12) = v := ⟨_, rfl⟩
        rw [hve] at hv2 HQ HTK ⊢
        clear hve hv
        go_wp2_with fail
        refine (l06Text_any v _ hv2).mono ?_
        rintro e w1 ⟨t, rfl, ht, hz, hb⟩
        have hcmp : (t.toList == s.toList) = okP s.data.toList := by
          rw [ByteArray.toList_eq, ByteArray.toList_eq]
          unfold Txt at ht
          rw [ht]
          rcases hq : okP s.data.toList with _ | _
          · have : ¬ tx 12 v = s.data.toList := fun e => by have := HQ.out.2 e; rw [hq] at this; cases this
            simpa using this
          · simpa using HQ.out.1 hq
        rcases hq : okP s.data.toList with _ | _
        · rw [hq] at hcmp
          have HY := Lib.hid (rp_no hq)
          go_wp2
          go_ret2
          exact ⟨ret_int2 HY.out.1.symm HY.out.2.symm, hb⟩
        · rw [hq] at hcmp
          have HY := Lib.hid (rp_yes hq)
          have HV := Lib.hid (HTK.out hq)
          go_wp2
          go_ret2
          exact ⟨ret_int2 (by rw [HY.out.1, HV.out]) HY.out.2.symm, hb⟩
    · obtain rfl : k = s.size := by omega
      have ht12 : s.data.toList.take s.size = s.data.toList.take 12 := by
        rw [List.take_of_length_le (by rw [Array.length_toList]; exact Nat.le_refl _), List.take_of_length_le (by rw [Array.length_toList]; exact hk)]
      have hv2 : tv (s.data.toList.take 12) < 4096 := tv_lt _ 12
      rw [ht12]
      clear ht12
      have HQ := Lib.hid (okP_iff s.data.toList)
      have HTK : Hid (okP s.data.toList = true → tv (s.data.toList.take 12) = tv s.data.toList) := Lib.hid (fun h => by
        unfold okP at h
        rw [Bool.and_eq_true, decide_eq_true_eq] at h
        rw [List.take_of_length_le (by omega)])
      obtain ⟨v, hve⟩ : ∃ v, tv (s.data.toList.take 12) = v := ⟨_, rfl⟩
      rw [hve] at hv2 HQ HTK ⊢
      clear hve hv
      go_wp2_with fail
      refine (l06Text_any v _ hv2).mono ?_
      rintro e w1 ⟨t, rfl, ht, hz, hb⟩
      have hcmp : (t.toList == s.toList) = okP s.data.toList := by
        rw [ByteArray.toList_eq, ByteArray.toList_eq]
        unfold Txt at ht
        rw [ht]
        rcases hq : okP s.data.toList with _ | _
        · have : ¬ tx 12 v = s.data.toList := fun e => by have := HQ.out.2 e; rw [hq] at this; cases this
          simpa using this
        · simpa using HQ.out.1 hq
      rcases hq : okP s.data.toList with _ | _
      · rw [hq] at hcmp
        have HY := Lib.hid (rp_no hq)
        go_wp2
        go_ret2
        exact ⟨ret_int2 HY.out.1.symm HY.out.2.symm, hb⟩
      · rw [hq] at hcmp
        have HY := Lib.hid (rp_yes hq)
        have HV := Lib.hid (HTK.out hq)
        go_wp2
        go_ret2
        exact ⟨ret_int2 (by rw [HY.out.1, HV.out]) HY.out.2.symm, hb⟩

theorem lawReadProfile_any (s : ByteArray) (w : World) :
    Calls Try.prog 10 #[.string s] w fun e w' => e = .returned (.bool true) ∧ Below w.heap.size w w' := by
  by_cases hs : s.size ≤ 1048576
  · have d1 : (rpV s.data.toList != rpV s.data.toList) = false := by simp
    have d2 : (rpE s.data.toList != rpE s.data.toList) = false := by simp
    go_enter Try.func10, Try.ntmps10
    go_wp2_with fail
    refine (specReadProfile_any s _ hs).mono ?_
    rintro e w1 ⟨rfl, b1⟩
    go_wp2_with fail
    refine (readProfile_any s _).mono ?_
    rintro e w' ⟨rfl, rfl⟩
    go_wp2
    go_ret
    exact ⟨rfl, b1⟩
  · go_enter Try.func10, Try.ntmps10
    go_wp2
    go_ret
    exact ⟨rfl, Below.refl _ _⟩

end Go.Proofs.Ytiijkcebloefbaa
