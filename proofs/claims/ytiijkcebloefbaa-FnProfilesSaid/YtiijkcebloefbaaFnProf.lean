/- The law of profiles: its walk. -/
import Derived.Test.YtiijkcebloefbaaDraw6
import Derived.Test.YtiijkcebloefbaaWays
import Derived.Test.YtiijkcebloefbaaPRead
import Derived.Test.YtiijkcebloefbaaDice
import Derived.Test.YtiijkcebloefbaaFnBase
namespace Go.Proofs.Ytiijkcebloefbaa
open Go.RowKit

theorem hasInt_yes (A : Option Addr) (n c : Nat) (xs : List Int) (v : Int) (w : World) (h : Ints w w.heap.size A n xs) (hn : n ≤ 1048576) (hv : v ∈ xs) :
    Calls Try.prog 27 #[.slice A n c, .int .i64 v] w fun e w' => e = .returned (.bool true) ∧ w = w' := by
  have HL := Lib.hid h.len
  have HV := Lib.hid hv
  clear hv
  go_enter Try.func27, Try.ntmps27
  go_wp2
  go_loop [5] (fun i => ∃ k : Nat, k ≤ n ∧ i = .int .i64 k ∧ Hid (v ∉ xs.take k)) (fun i => n - (intOf i).toNat)
  case atStart => exact ⟨0, Nat.zero_le _, rfl, Lib.hid (by simp)⟩
  case round =>
    obtain ⟨k, hk, rfl, hno⟩ := hrel
    by_cases hlt : k < n
    · obtain ⟨ad, u, rfl, hab, hu, hc⟩ := h.at_ hlt
      have HU := Lib.hid hu
      clear hu
      rcases hq : (u == v) with _ | _
      · have HN : Hid (v ∉ xs.take (k + 1)) := Lib.hid (by
          obtain ⟨hkl, he⟩ := List.getElem?_eq_some_iff.1 HU.out
          rw [List.take_succ_eq_append_getElem hkl, List.mem_append]
          intro hm
          rcases hm with hm | hm
          · exact hno.out hm
          · rw [he] at hm
            have : v = u := by simpa using hm
            rw [this] at hq
            simp at hq)
        go_wp2
        go_round
        case rel => exact ⟨k + 1, by omega, by go_num, HN⟩
        case measure => simp [intOf]; omega
      · go_wp2
        go_ret
        exact ⟨rfl, rfl⟩
    · exact absurd HV.out (by have := hno.out; rwa [List.take_of_length_le (by rw [HL.out]; omega)] at this)

theorem pt_back {r : Int} (h : ptE r = 0) : rpE (ptT r) = 0 ∧ rpV (ptT r) = r := by
  rcases hq : inB r 0 4095 with _ | _
  · rw [(pt_no hq).2] at h; cases h
  · obtain ⟨r0, r1⟩ := inB_true.1 hq
    have hok : okP (ptT r) = true := by
      rw [(pt_yes hq).1]
      unfold okP
      rw [tx_len, tx_marks]; rfl
    obtain ⟨e1, e2⟩ := rp_yes hok
    refine ⟨e2, ?_⟩
    rw [e1, (pt_yes hq).1, tv_tx, Nat.mod_eq_of_lt (by omega)]
    omega
theorem wo_zero {b : Int} {xs : List Int} (h : woE b xs = 0) : 0 ≤ b ∧ b ≤ 4095 ∧ waysB xs = true ∧ woL b xs = entI b xs xs.length := by
  rcases hb : inB b 0 4095 with _ | _
  · rw [(wo_no (.inl hb)).2] at h; cases h
  rcases hw : waysB xs with _ | _
  · rw [(wo_no (.inr hw)).2] at h; cases h
  obtain ⟨b0, b1⟩ := inB_true.1 hb
  exact ⟨b0, b1, rfl, (wo_yes rfl hb hw).1⟩
/-- a blank that fills less enters what the other enters -/
theorem less_enters {b x : Int} {xs : List Int} (hb : woE b xs = 0) (b0 : 0 ≤ b) : woE ((b.toNat &&& x.toNat : Nat) : Int) xs = 0 ∧ ∀ v ∈ woL b xs, v ∈ woL ((b.toNat &&& x.toNat : Nat) : Int) xs := by
  obtain ⟨_, b1, hw, hl⟩ := wo_zero hb
  have hle : b.toNat &&& x.toNat ≤ b.toNat := Nat.and_le_left
  have hin : inB ((b.toNat &&& x.toNat : Nat) : Int) 0 4095 = true := inB_true.2 (by omega)
  obtain ⟨e1, e2⟩ := wo_yes (xs := xs) rfl hin hw
  refine ⟨e2, fun v hv => ?_⟩
  rw [e1]
  rw [hl] at hv
  unfold entI at hv ⊢
  obtain ⟨j, hj, rfl⟩ := List.mem_map.1 hv
  obtain ⟨hj1, hj2⟩ := List.mem_filter.1 hj
  refine List.mem_map.2 ⟨j, List.mem_filter.2 ⟨hj1, ?_⟩, rfl⟩
  unfold entB at hj2 ⊢
  rw [beq_iff_eq] at hj2 ⊢
  have hn : b.toNat &&& (xs.getD j 0).toNat = b.toNat := by omega
  rw [Int.toNat_natCast]
  have : b.toNat &&& x.toNat &&& (xs.getD j 0).toNat = b.toNat &&& x.toNat := by
    rw [Nat.and_assoc, Nat.and_comm x.toNat, ← Nat.and_assoc, hn]
  rw [this]

set_option maxRecDepth 100000 in
set_option maxHeartbeats 8000000 in
theorem fnProfiles_any (A : Option Addr) (n c : Nat) (w : World) (h : Bts w w.heap.size A n) :
    Calls Try.prog 3 #[.slice A n c] w fun e w' => e = .returned (.bool true) ∧ Below w.heap.size w w' := by
  by_cases hn : n ≤ 4096
  · have d0 : decide (4096 < (n : Int)) = false := by simp; omega
    have HB := Lib.hid h
    clear h
    go_enter Try.func3, Try.ntmps3
    go_wp2_with fail
    refine (big_any _ _ _ _).mono ?_
    rintro e w' ⟨rfl, rfl⟩
    rw [d0]
    clear d0
    go_wp2_with fail
    refine (drawWaysOf_any w.heap.size A n c w HB.out (Nat.le_refl _) hn).mono ?_
    rintro e w1 ⟨b, D, m, d, ws, rfl, ox, hm, hmd, b1⟩
    have x1 := ox.ints
    clear ox
    go_wp2_with fail
    refine (waysOf_any b _ _ _ ws _ x1 (by omega)).mono ?_
    rintro e w2 ⟨Ag, ng, cg, rfl, og, hng, _, _, b2⟩
    have g2 := og.ints
    have x2 := x1.on b2
    have c2 := below_trans' b1 b2
    clear b1 b2 x1 og
    go_wp2_with fail
    refine (specWaysOf_any b _ _ _ ws _ x2 (by omega)).mono ?_
    rintro e w3 ⟨Aw, nw, cw, rfl, ow, hnw, _, _, b3⟩
    have s3w := ow.ints
    have g3 := g2.on b3
    have x3 := x2.on b3
    obtain rfl : ng = nw := by rw [← g3.len, ← s3w.len]
    have c3 := below_trans' c2 b3
    have HB3 := Lib.hid (HB.out.keep (w' := w3) (fun p hp => c3.cell hp))
    have s3 := c3.size
    clear c2 b3 g2 x2 ow hnw
    go_wp2_with fail
    refine (drawEntersWay_any w.heap.size A n c w3 HB3.out s3 hn).mono ?_
    rintro e w4 ⟨p, q, rfl, b4⟩
    have s4w := s3w.on b4
    have g4 := g3.on b4
    have x4 := x3.on b4
    have c4 := below_trans' c3 b4
    have HB4 := Lib.hid (HB.out.keep (w' := w4) (fun p hp => c4.cell hp))
    have s4 := c4.size
    clear c3 b4 s3w g3 x3 HB3 s3
    go_wp2_with fail
    refine (entersWay_any p q _).mono ?_
    rintro e w' ⟨rfl, rfl⟩
    go_wp2_with fail
    refine (specEntersWay_any p q _).mono ?_
    rintro e w' ⟨rfl, rfl⟩
    go_wp2_with fail
    refine (drawProfileText_any w.heap.size A n c w4 HB4.out s4 hn).mono ?_
    rintro e w5 ⟨r, rfl, b5⟩
    have s5w := s4w.on b5
    have g5 := g4.on b5
    have x5 := x4.on b5
    have c5 := below_trans' c4 b5
    clear c4 b5 s4w g4 x4 HB4 s4
    go_wp2_with fail
    refine (profileText_any r _).mono ?_
    rintro e w6 ⟨t, rfl, ht, hts, b6⟩
    have s6w := s5w.on b6
    have g6 := g5.on b6
    have x6 := x5.on b6
    have c6 := below_trans' c5 b6
    clear c5 b6 s5w g5 x5
    go_wp2_with fail
    refine (specProfileText_any r _).mono ?_
    rintro e w7 ⟨t', rfl, ht', _, b7⟩
    obtain rfl : t = t' := text_eq (by unfold Txt at ht ht'; rw [ht, ht'])
    have HT := Lib.hid ht
    have s7w := s6w.on b7
    have g7 := g6.on b7
    have x7 := x6.on b7
    have c7 := below_trans' c6 b7
    have HB7 := Lib.hid (HB.out.keep (w' := w7) (fun p hp => c7.cell hp))
    have s7 := c7.size
    clear c6 b7 s6w g6 x6 ht ht'
    go_wp2_with fail
    refine (drawReadProfile_any w.heap.size A n c w7 HB7.out s7 hn).mono ?_
    rintro e w8 ⟨s, rfl, hs, b8⟩
    have s8w := s7w.on b8
    have g8 := g7.on b8
    have x8 := x7.on b8
    have c8 := below_trans' c7 b8
    clear c7 b8 s7w g7 x7 HB7 s7
    go_wp2_with fail
    refine (readProfile_any s _).mono ?_
    rintro e w' ⟨rfl, rfl⟩
    go_wp2_with fail
    refine (specReadProfile_any s _ (by omega)).mono ?_
    rintro e w9 ⟨rfl, b9⟩
    have s9w := s8w.on b9
    have g9 := g8.on b9
    have x9 := x8.on b9
    have c9 := below_trans' c8 b9
    clear c8 b9 s8w g8 x8
    have f1 : (woE b ws != woE b ws) = false := by simp
    have f2 : (ewE p q != ewE p q) = false := by simp
    have f3 : (ewV p q != ewV p q) = false := by simp
    have f4 : (ptE r != ptE r) = false := by simp
    have f5 : (rpE s.data.toList != rpE s.data.toList) = false := by simp
    have f6 : (rpV s.data.toList != rpV s.data.toList) = false := by simp
    go_wp2_with fail
    refine (likeInts_true _ _ _ _ _ _ _ g9 s9w hng).mono ?_
    rintro e w10 ⟨rfl, b10⟩
    have g10 := g9.on b10
    have x10 := x9.on b10
    have c10 := below_trans' c9 b10
    clear c9 b10 s9w g9 x9
    rcases k0 : (ptE r == 0) with _ | _
    · rcases k1 : (woE b ws == 0) with _ | _
      · go_wp2
        go_ret
        exact ⟨rfl, c10⟩
      have hz : woE b ws = 0 := by simpa using k1
      have b0 := (wo_zero hz).1
      have b4k := (wo_zero hz).2.1
      have HZ := Lib.hid hz
      have HBx := Lib.hid (HB.out.keep (w' := w10) (fun p hp => c10.cell hp))
      have s10 := c10.size
      clear hz
      go_wp2_with fail
      refine (roll_any w.heap.size A n c _ _ HBx.out s10 hn).mono ?_
      rintro e w11 ⟨gd, rfl, hgd, hgd1, hdie, b11⟩
      have C11 := Lib.hid (below_trans' c10 b11)
      clear c10 HBx
      go_wp2_with fail
      refine (below_any w.heap.size gd A n c _ _ hdie (by omega) (by omega)).mono ?_
      rintro e w12 ⟨x, rfl, x0, x1, _, g12g⟩
      have C12 := Lib.hid (below_grown C11.out g12g (fun q e => by injection e with e; omega))
      have far : ∀ p : Addr, p.block < w10.heap.size → w12.cell? p = w10.cell? p := fun p hp => (g12g.cell_far p (by have := b11.size; omega) (by intro e; injection e with e; omega)).trans (b11.cell hp)
      have s12 : w10.heap.size ≤ w12.heap.size := by have := b11.size; have := g12g.size; omega
      have g12 := (g10.keep (w' := w12) far).more s12
      have x12 := (x10.keep (w' := w12) far).more s12
      have hand : bits .and .i64 b x = ((b.toNat &&& x.toNat : Nat) : Int) := and_int64 b0 (by omega) x0 (by omega)
      have HLS := Lib.hid (less_enters (x := x) HZ.out b0)
      obtain ⟨L, hL⟩ : ∃ L, ((b.toNat &&& x.toNat : Nat) : Int) = L := ⟨_, rfl⟩
      rw [hL] at hand HLS
      clear g10 x10 far b11 g12g C11 hdie x1 hL s12
      go_wp2_with fail
      refine (waysOf_any L _ _ _ ws _ x12 (by omega)).mono ?_
      rw [HLS.out.1]
      rintro e w13 ⟨Am, nm, cm, rfl, om, hnm, _, _, b13⟩
      have g13 := g12.on b13
      have m13 := om.ints
      have C13 := Lib.hid (below_trans' C12.out b13)
      clear C12 b13 g12 x12 om hand
      go_wp2
      go_loop [30] (fun i => ∃ k : Nat, k ≤ ng ∧ i = .int .i64 k) (fun i => ng - (intOf i).toNat)
      case atStart => exact ⟨0, Nat.zero_le _, rfl⟩
      case round =>
        obtain ⟨k, hk, rfl⟩ := hrel
        by_cases hlt : k < ng
        · obtain ⟨ad, v, rfl, hab, hv, hc⟩ := g13.at_ hlt
          have HV := Lib.hid (HLS.out.2 v (List.mem_of_getElem? hv))
          clear hv
          go_wp2_with fail
          refine (hasInt_yes _ _ _ _ v _ m13 hnm HV.out).mono ?_
          rintro e w' ⟨rfl, rfl⟩
          go_wp2
          go_round
          case rel => exact ⟨k + 1, by omega, by go_num⟩
          case measure => simp [intOf]; omega
        · go_wp2
          go_ret
          exact ⟨rfl, C13.out⟩
    · have hp0 : ptE r = 0 := by simpa using k0
      have HPB := Lib.hid (pt_back hp0)
      clear hp0
      have hrr : (r != r) = false := by simp
      go_wp2_with fail
      refine (readProfile_any t _).mono ?_
      rw [show t.data.toList = ptT r from HT.out, HPB.out.1, HPB.out.2]
      rintro e w' ⟨rfl, rfl⟩
      rcases k1 : (woE b ws == 0) with _ | _
      · go_wp2
        go_ret
        exact ⟨rfl, c10⟩
      have hz : woE b ws = 0 := by simpa using k1
      have b0 := (wo_zero hz).1
      have b4k := (wo_zero hz).2.1
      have HZ := Lib.hid hz
      have HBx := Lib.hid (HB.out.keep (w' := w10) (fun p hp => c10.cell hp))
      have s10 := c10.size
      clear hz
      go_wp2_with fail
      refine (roll_any w.heap.size A n c _ _ HBx.out s10 hn).mono ?_
      rintro e w11 ⟨gd, rfl, hgd, hgd1, hdie, b11⟩
      have C11 := Lib.hid (below_trans' c10 b11)
      clear c10 HBx
      go_wp2_with fail
      refine (below_any w.heap.size gd A n c _ _ hdie (by omega) (by omega)).mono ?_
      rintro e w12 ⟨x, rfl, x0, x1, _, g12g⟩
      have C12 := Lib.hid (below_grown C11.out g12g (fun q e => by injection e with e; omega))
      have far : ∀ p : Addr, p.block < w10.heap.size → w12.cell? p = w10.cell? p := fun p hp => (g12g.cell_far p (by have := b11.size; omega) (by intro e; injection e with e; omega)).trans (b11.cell hp)
      have s12 : w10.heap.size ≤ w12.heap.size := by have := b11.size; have := g12g.size; omega
      have g12 := (g10.keep (w' := w12) far).more s12
      have x12 := (x10.keep (w' := w12) far).more s12
      have hand : bits .and .i64 b x = ((b.toNat &&& x.toNat : Nat) : Int) := and_int64 b0 (by omega) x0 (by omega)
      have HLS := Lib.hid (less_enters (x := x) HZ.out b0)
      obtain ⟨L, hL⟩ : ∃ L, ((b.toNat &&& x.toNat : Nat) : Int) = L := ⟨_, rfl⟩
      rw [hL] at hand HLS
      clear g10 x10 far b11 g12g C11 hdie x1 hL s12
      go_wp2_with fail
      refine (waysOf_any L _ _ _ ws _ x12 (by omega)).mono ?_
      rw [HLS.out.1]
      rintro e w13 ⟨Am, nm, cm, rfl, om, hnm, _, _, b13⟩
      have g13 := g12.on b13
      have m13 := om.ints
      have C13 := Lib.hid (below_trans' C12.out b13)
      clear C12 b13 g12 x12 om hand
      go_wp2
      go_loop [30] (fun i => ∃ k : Nat, k ≤ ng ∧ i = .int .i64 k) (fun i => ng - (intOf i).toNat)
      case atStart => exact ⟨0, Nat.zero_le _, rfl⟩
      case round =>
        obtain ⟨k, hk, rfl⟩ := hrel
        by_cases hlt : k < ng
        · obtain ⟨ad, v, rfl, hab, hv, hc⟩ := g13.at_ hlt
          have HV := Lib.hid (HLS.out.2 v (List.mem_of_getElem? hv))
          clear hv
          go_wp2_with fail
          refine (hasInt_yes _ _ _ _ v _ m13 hnm HV.out).mono ?_
          rintro e w' ⟨rfl, rfl⟩
          go_wp2
          go_round
          case rel => exact ⟨k + 1, by omega, by go_num⟩
          case measure => simp [intOf]; omega
        · go_wp2
          go_ret
          exact ⟨rfl, C13.out⟩
  · have d0 : decide (4096 < (n : Int)) = true := by simp; omega
    go_enter Try.func3, Try.ntmps3
    go_wp2_with fail
    refine (big_any _ _ _ _).mono ?_
    rintro e w' ⟨rfl, rfl⟩
    rw [d0]
    go_wp2
    go_ret
    exact ⟨rfl, Below.refl _ _⟩

end Go.Proofs.Ytiijkcebloefbaa
