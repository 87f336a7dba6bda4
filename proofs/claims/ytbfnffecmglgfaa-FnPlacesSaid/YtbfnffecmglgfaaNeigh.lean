/- WornNeighbours of the program and of the model. -/
import Derived.Test.YtbfnffecmglgfaaCntMay
namespace Go.Proofs.Ytbfnffecmglgfaa
open Go Go.RowKit

theorem kt_keyW {m : Mk} {xs : List Int} (h : ktE m xs = 0) : m.ok = true ∧ isKeyB m xs = true := by
  rw [← code_one] at h
  obtain ⟨h1, h2⟩ := code_zero.1 h
  simp at h2
  exact ⟨h1, h2⟩
theorem wn_bad {m : Mk} {xs : List Int} {wr t : Int} (h : ktE m xs ≠ 0) : wnE m xs wr t = ktE m xs ∧ wnV m xs wr t = 0 := by
  unfold ktE at *
  unfold wnE wnV
  rcases hm : m.ok with _ | _
  · have : isKeyB m xs = false := by unfold isKeyB; rw [hm]; rfl
    simp [this]
  · rcases hK : isKeyB m xs with _ | _
    · simp
    · rw [hm, hK] at h; simp at h
theorem wn_fit {m : Mk} {xs : List Int} {wr t : Int} (h : ktE m xs = 0) (h2 : isFit wr t = false) : wnE m xs wr t = 2 ∧ wnV m xs wr t = 0 := by
  obtain ⟨hm, hk⟩ := kt_keyW h
  unfold wnE wnV
  simp [hm, hk, h2]
theorem wn_yes {m : Mk} {xs : List Int} {wr t : Int} (h : ktE m xs = 0) (h2 : isFit wr t = true) : wnE m xs wr t = 0 ∧ wnV m xs wr t = ((opAll m (nearP xs t (plc wr))).length : Int) ∧ lockB m (nearL m xs t (plc wr)) = true ∧ coV m (nearL m xs t (plc wr)) = wnV m xs wr t ∧ lkE m (nearL m xs t (plc wr)) = 0 ∧ (nearL m xs t (plc wr)).length + sizeL (nearL m xs t (plc wr)) ≤ 1048576 := by
  obtain ⟨hm, hk⟩ := kt_keyW h
  obtain ⟨r0, r1, t0, t1⟩ := fit_facts h2
  have hp : 0 < plc wr := by unfold plc; omega
  have e1 : wnV m xs wr t = ((opAll m (nearP xs t (plc wr))).length : Int) := by simp [wnV, hk, h2]
  have hL := near_lock hk t0 hp
  obtain ⟨h3, h4⟩ := co_yes hL
  obtain ⟨m1, m2, m3, m4, _⟩ := Mk.ok_true hm
  refine ⟨by simp [wnE, hm, hk, h2], e1, hL, ?_, h4, lockOf_sizeW (by omega) (by omega)⟩
  rw [h3, op_near, e1]
theorem one_bit (d : Nat) : (fun e => (nxtU 0 d).testBit e) = fun e => decide (e = d) := by
  funext e
  rw [bit_or]; simp

/-- what stays true while the neighbours' lock is made -/
structure NK (w W : World) (m : Mk) (k : Nat) (us : Nat → Nat) : Prop where
  x : Boxed W w.heap.size 25 m
  b : BitBox W k 106 m us
  c : Below w.heap.size w W
theorem NK.on {w W W' : World} {m : Mk} {k : Nat} {us : Nat → Nat} (h : NK w W m k us) (b : Below W.heap.size W W') : NK w W' m k us := ⟨h.x.on b, h.b.on b, below_trans' h.c b⟩
theorem NK.put {w W : World} {m : Mk} {k i d : Nat} {us : Nat → Nat} (h : NK w W m k us) (hk : w.heap.size < k) (hi : i < 6) : NK w (W.setCell ⟨k, 5 + i, none⟩ (.int .u8 ((nxtU (us i) d : Nat) : Int))) m k (bitAdd us i d) :=
  have b : Below k W (W.setCell ⟨k, 5 + i, none⟩ (.int .u8 ((nxtU (us i) d : Nat) : Int))) := (Below.refl k W).setCell (p := ⟨k, 5 + i, none⟩) (Nat.le_refl _) _
  ⟨h.x.below b hk, h.b.put hi, h.c.trans (b.mono (by omega))⟩
theorem NK.aside {w W : World} {m : Mk} {k g : Nat} {us : Nat → Nat} (h : NK w W m k us) (hg : k < g) (hk : w.heap.size < k) (i : Nat) (v : Value) : NK w (W.setCell ⟨g, i, none⟩ v) m k us :=
  have b : Below g W (W.setCell ⟨g, i, none⟩ v) := (Below.refl g W).setCell (p := ⟨g, i, none⟩) (Nat.le_refl _) _
  ⟨h.x.below b (by omega), h.b.below b hg, h.c.trans (b.mono (by omega))⟩
theorem Cell2.put0 {w : World} {b : Nat} {t : TypeId} {u v : Value} (h : Cell2 w b t u v) (x : Value) : Cell2 (w.setCell ⟨b, 0, none⟩ x) b t x v := by
  unfold Cell2 at *
  simp [World.setCell, Array.getElem?_modify, h]
theorem Cell2.thawed {w : World} {b : Nat} {t : TypeId} {u v : Value} (h : Cell2 w b t u v) (i : Nat) : w.frozen? ⟨b, i, none⟩ = false := by unfold Cell2 at h; simp [World.frozen?, h]
theorem NK.cells {w W : World} {m : Mk} {k : Nat} {vs : Nat → Nat} (h : NK w W m k vs) : W.cell? ⟨w.heap.size, 0, none⟩ = some (.int .i64 m.C) ∧ W.cell? ⟨w.heap.size, 1, none⟩ = some (.int .i64 m.D) ∧ W.cell? ⟨w.heap.size, 2, none⟩ = some (.int .i64 m.S) ∧ W.cell? ⟨w.heap.size, 3, none⟩ = some (.int .i64 m.M) ∧ W.cell? ⟨w.heap.size, 4, none⟩ = some (.int .i64 m.L) ∧
    W.cell? ⟨k, 0, none⟩ = some (.int .i64 m.C) ∧ W.cell? ⟨k, 1, none⟩ = some (.int .i64 m.D) ∧ W.cell? ⟨k, 2, none⟩ = some (.int .i64 m.S) ∧ W.cell? ⟨k, 3, none⟩ = some (.int .i64 m.M) ∧ W.cell? ⟨k, 4, none⟩ = some (.int .i64 m.L) ∧
    W.cell? ⟨k, 5, none⟩ = some (.int .u8 (vs 0 : Nat)) ∧ W.cell? ⟨k, 6, none⟩ = some (.int .u8 (vs 1 : Nat)) ∧ W.cell? ⟨k, 7, none⟩ = some (.int .u8 (vs 2 : Nat)) ∧ W.cell? ⟨k, 8, none⟩ = some (.int .u8 (vs 3 : Nat)) ∧ W.cell? ⟨k, 9, none⟩ = some (.int .u8 (vs 4 : Nat)) ∧ W.cell? ⟨k, 10, none⟩ = some (.int .u8 (vs 5 : Nat)) := by
  obtain ⟨q0, q1, q2, q3, q4⟩ := h.x.cells
  exact ⟨q0, q1, q2, q3, q4, h.b.cells⟩

set_option maxRecDepth 100000 in
set_option maxHeartbeats 8000000 in
theorem wornNeighbours_any (m : Mk) (A : Option Addr) (n c : Nat) (xs : List Int) (wr t : Int) (w : World) (h : Ints w w.heap.size A n xs) (hn : n ≤ 1048576) :
    Calls Try.prog 68 #[.agg #[.int .i64 m.C, .int .i64 m.D, .int .i64 m.S, .int .i64 m.M, .int .i64 m.L], .slice A n c, .int .i64 wr, .int .i64 t] w fun e w' => e = .returned (.tuple #[.int .i64 (wnV m xs wr t), .int .i64 (wnE m xs wr t)]) ∧ Below w.heap.size w w' := by
  have hx := (Boxed.new w 25 m).alloc (.cells #[.slice A n c] 39)
  have b0 := ((Below.refl w.heap.size w).alloc (Nat.le_refl _) (.cells #[.int .i64 m.C, .int .i64 m.D, .int .i64 m.S, .int .i64 m.M, .int .i64 m.L] 25)).alloc (by simp) (.cells #[.slice A n c] 39)
  have hl := Lists.one (c := c) 39 (h.on ((Below.refl w.heap.size w).alloc (Nat.le_refl _) (.cells #[.int .i64 m.C, .int .i64 m.D, .int .i64 m.S, .int .i64 m.M, .int .i64 m.L] 25))) hn
  simp only [World.size_alloc] at hl
  have HI := Lib.hid h
  obtain ⟨q0, q1, q2, q3, q4⟩ := hx.cells
  clear h
  by_cases hz : ktE m xs = 0
  rotate_left
  · obtain ⟨e1, e2⟩ := wn_bad (wr := wr) (t := t) hz
    rw [e1, e2]; clear e1 e2
    obtain ⟨v, hv⟩ : ∃ v, ktE m xs = v := ⟨_, rfl⟩
    rw [hv] at hz ⊢
    have HV := Lib.hid (show codeF m [xs] = v by rw [code_one]; exact hv)
    have hq : (v != 0) = true := by simpa using hz
    clear hz hv
    go_enter Try.func68, Try.ntmps68
    go_wp2_with fail
    refine (codeFor_any m _ 1 _ [xs] _ hl (by omega)).mono ?_
    rw [HV.out]
    rintro e w1 ⟨rfl, b3⟩
    have c1 := below_trans' b0 b3
    clear hl b0 b3 hx q0 q1 q2 q3 q4
    go_wp2
    go_ret2
    exact ⟨rfl, c1⟩
  have HZ := Lib.hid (show codeF m [xs] = 0 by rw [code_one]; exact hz)
  rcases hF : isFit wr t with _ | _
  · obtain ⟨e1, e2⟩ := wn_fit hz hF
    rw [e1, e2]; clear e1 e2 hz
    go_enter Try.func68, Try.ntmps68
    go_wp2_with fail
    refine (codeFor_any m _ 1 _ [xs] _ hl (by omega)).mono ?_
    rw [HZ.out]
    rintro e w1 ⟨rfl, b3⟩
    have c1 := below_trans' b0 b3
    clear hl b0 b3 hx q0 q1 q2 q3 q4
    go_wp2_with fail
    refine (isValid_any wr t _).mono ?_
    rw [hF]
    rintro e w2 ⟨rfl, b2⟩
    have c2 := below_trans' c1 b2
    go_wp2
    go_ret2
    exact ⟨rfl, c2⟩
  obtain ⟨r0, r1, t0, t1⟩ := fit_facts hF
  obtain ⟨rn, rfl⟩ : ∃ rn : Nat, wr = (rn : Int) := ⟨wr.toNat, by omega⟩
  obtain ⟨tn, rfl⟩ : ∃ tn : Nat, t = (tn : Int) := ⟨t.toNat, by omega⟩
  have hpl : plc (rn : Int) = rn + 1 := by unfold plc; omega
  have HE := Lib.hid (wn_yes hz hF)
  rw [hpl] at HE
  rw [HE.out.1]
  obtain ⟨hm, hk⟩ := kt_keyW hz
  obtain ⟨_, hlen, hdep, _⟩ := key_facts hk
  obtain ⟨m1, m2, m3, m4, m5, m6, m7, m8, m9, m10, m11⟩ := Mk.ok_true hm
  have hn6 : n ≤ 6 := by have := HI.out.len; omega
  have hCn : (n : Int) = m.C := by have := HI.out.len; omega
  have HM := Lib.hid hm
  have HF := Lib.hid hF
  have HD := Lib.hid (key_seven hk)
  have HCN := Lib.hid hCn
  clear hz hF hpl hm hk hlen hdep m5 m6 m7 m8 m9 m10 m11 hCn m1 m2
  go_enter Try.func68, Try.ntmps68
  go_wp2_with fail
  refine (codeFor_any m _ 1 _ [xs] _ hl (by omega)).mono ?_
  rw [HZ.out]
  rintro e w1 ⟨rfl, b3⟩
  have c1 := below_trans' b0 b3
  have x1 := hx.on b3
  clear hl b0 b3 hx q0 q1 q2 q3 q4
  go_wp2_with fail
  refine (isValid_any _ _ _).mono ?_
  rw [HF.out]
  rintro e w2 ⟨rfl, b2⟩
  have c2 := below_trans' c1 b2
  have x2 := x1.on b2
  have hz2 := x2.lt
  have K3 : Hid (NK w (w2.alloc (.cells #[.int .i64 m.C, .int .i64 m.D, .int .i64 m.S, .int .i64 m.M, .int .i64 m.L, .int .u8 0, .int .u8 0, .int .u8 0, .int .u8 0, .int .u8 0, .int .u8 0] 106)) m w2.heap.size (fun _ => 0)) := Lib.hid ⟨x2.alloc _, BitBox.zero w2 106 m rfl, c2.alloc c2.size _⟩
  obtain ⟨q0, q1, q2, q3, q4⟩ := x2.cells
  clear c1 c2 x1 x2 b2
  go_wp2
  clear q0 q1 q2 q3 q4
  obtain ⟨k, hk⟩ : ∃ k, k = w2.heap.size := ⟨_, rfl⟩
  rw [← hk] at K3 hz2 ⊢
  generalize (w2.alloc (.cells #[.int .i64 m.C, .int .i64 m.D, .int .i64 m.S, .int .i64 m.M, .int .i64 m.L, .int .u8 0, .int .u8 0, .int .u8 0, .int .u8 0, .int .u8 0, .int .u8 0] 106)) = w3 at *
  clear hk
  go_loopw [32] (fun x wr => ∃ (i : Nat) (us : Nat → Nat), x = .int .i64 i ∧ i ≤ n ∧ Hid (NK w wr m k us) ∧ Hid (Upto m.D.toNat (nearP xs (tn : Int) (rn + 1)) us i 0)) (fun x _ => n - (intOf x).toNat)
  case atStart => exact ⟨0, fun _ => 0, rfl, Nat.zero_le _, K3, Lib.hid (Upto.zero _ _)⟩
  case round =>
    clear K3
    obtain ⟨i, us, rfl, hi, HK, HU⟩ := hrel
    obtain ⟨wo, rfl⟩ : ∃ wo, wo = wr := ⟨_, rfl⟩
    by_cases hlt : i < n
    · obtain ⟨ad, v, rfl, hab, hv, hc⟩ := (HI.out.on HK.out.c).at_ hlt
      obtain ⟨v0, v1⟩ := allIn_at HD.out hv
      obtain ⟨e, rfl⟩ : ∃ e : Nat, v = (e : Int) := ⟨v.toNat, by omega⟩
      have HG := Lib.hid (getD_at hv)
      have i0 : (0 : Int) ≤ (i : Int) := by omega
      have i6 : (i : Int) < 6 := by omega
      obtain ⟨q0, q1, q2, q3, q4⟩ := HK.out.x.cells
      clear hv q0 q2 q3 q4
      go_wp2
      clear q1 hc
      go_loopw [39] (fun x wr => ∃ (d : Nat) (ts : Nat → Nat), x = .int .i64 d ∧ (d : Int) ≤ m.D ∧ Hid (NK w wr m k ts) ∧ Hid (Upto m.D.toNat (nearP xs (tn : Int) (rn + 1)) ts i d)) (fun x _ => m.D.toNat - (intOf x).toNat)
      case atStart => exact ⟨0, us, rfl, by omega, HK, HU⟩
      case round =>
        clear HK HU
        obtain ⟨d, ts, rfl, hd, HK, HU⟩ := hrel
        by_cases hltd : (d : Int) < m.D
        · obtain ⟨bb, hbb⟩ : ∃ bb, nearP xs (tn : Int) (rn + 1) i d = bb := ⟨_, rfl⟩
          have HBB := Lib.hid hbb
          have HB2 : Hid (someAt (freeAt (fun e => (nxtU 0 d).testBit e) (tn : Int)) (e : Int) (rn + 1) = bb) := Lib.hid (by rw [← hbb, one_bit]; unfold nearP; rw [HG.out])
          have hkl := HK.out.b.lt
          have K4 := HK.out.on ((Below.refl wr.heap.size wr).alloc (Nat.le_refl _) (.cells #[.int .u8 0, .int .i64 (tn : Int)] 135))
          have Y4 := Cell2.new wr 135 (.int .u8 0) (.int .i64 (tn : Int))
          have hst := Y4.cells.1
          have hfz := Y4.thawed 0
          clear hbb
          go_wp2_with fail
          refine (add_any ⟨wr.heap.size, 0, none⟩ 0 d _ (by omega) (by omega) hst hfz).mono ?_
          rintro e w5 ⟨rfl, r, rfl⟩
          have K5 := Lib.hid ((HK.out.on ((Below.refl wr.heap.size wr).alloc (Nat.le_refl _) (.cells #[.int .u8 ((nxtU 0 d : Nat) : Int), .int .i64 (tn : Int)] 135))).on (below_drewN (Below.refl _ _) r))
          have Y5 := (Cell2.new wr 135 (.int .u8 ((nxtU 0 d : Nat) : Int)) (.int .i64 (tn : Int))).drewN r
          obtain ⟨p0, p1⟩ := Y5.cells
          clear hst hfz K4 Y4 HK
          go_wp2_with fail
          refine (mayFree_any _ rn (nxtU 0 d) tn (by omega) (by omega) (nxtU_lt (by omega) (by omega)) (by omega) _ bb HB2.out).mono ?_
          rintro e w7 ⟨rfl, b7⟩
          have K7 := Lib.hid (K5.out.on b7)
          clear p0 p1 K5 b7 Y5
          rcases bb with _ | _
          · have U7 := Lib.hid (HU.out.skip HBB.out)
            go_wp2
            go_roundw
            case rel => exact ⟨d + 1, ts, by go_num, by omega, K7, U7⟩
            case measure => simp [intOf]; omega
          · have hst := K7.out.b.bit (show i < 6 by omega)
            have hfz := K7.out.b.thawed (5 + i)
            go_wp2_with fail
            refine (add_any ⟨k, 5 + i, none⟩ (ts i) d _ (HU.out.1 i) (by omega) hst hfz).mono ?_
            rintro e w8 ⟨rfl, r, rfl⟩
            have K8 := Lib.hid ((K7.out.put (d := d) hz2 (show i < 6 by omega)).on (below_drewN (Below.refl _ _) r))
            have U8 := Lib.hid (HU.out.add HBB.out (show d < 8 by omega))
            clear hst hfz K7 HU
            go_wp2
            go_roundw
            case rel => exact ⟨d + 1, _, by go_num, by omega, K8, U8⟩
            case measure => simp [intOf]; omega
        · have U2 := Lib.hid (HU.out.row (by omega))
          go_wp2
          go_roundw
          case rel => exact ⟨i + 1, ts, by go_num, by omega, HK, U2⟩
          case measure => simp [intOf]; omega
    · have HP : Hid (lockOf m.C.toNat m.D.toNat (bitP us) = nearL m xs (tn : Int) (rn + 1)) := Lib.hid (HU.out.lock (by have := HCN.out; omega))
      have HU1 := Lib.hid HU.out.1
      obtain ⟨q0, q1, q2, q3, q4, r0, r1, r2, r3, r4, r5, r6, r7, r8, r9, r10⟩ := HK.out.cells
      obtain ⟨W, hW⟩ : ∃ W, nearL m xs (tn : Int) (rn + 1) = W := ⟨_, rfl⟩
      rw [hW] at HE HP
      clear hW
      go_wp2
      go_region_held3 (fun w' => w'.cell? ⟨w.heap.size, 0, none⟩ = some (.int .i64 m.C) ∧ w'.cell? ⟨w.heap.size, 1, none⟩ = some (.int .i64 m.D) ∧ w'.cell? ⟨w.heap.size, 2, none⟩ = some (.int .i64 m.S) ∧ w'.cell? ⟨w.heap.size, 3, none⟩ = some (.int .i64 m.M) ∧ w'.cell? ⟨w.heap.size, 4, none⟩ = some (.int .i64 m.L) ∧
    w'.cell? ⟨k, 0, none⟩ = some (.int .i64 m.C) ∧ w'.cell? ⟨k, 1, none⟩ = some (.int .i64 m.D) ∧ w'.cell? ⟨k, 2, none⟩ = some (.int .i64 m.S) ∧ w'.cell? ⟨k, 3, none⟩ = some (.int .i64 m.M) ∧ w'.cell? ⟨k, 4, none⟩ = some (.int .i64 m.L) ∧
    w'.cell? ⟨k, 5, none⟩ = some (.int .u8 (us 0 : Nat)) ∧ w'.cell? ⟨k, 6, none⟩ = some (.int .u8 (us 1 : Nat)) ∧ w'.cell? ⟨k, 7, none⟩ = some (.int .u8 (us 2 : Nat)) ∧ w'.cell? ⟨k, 8, none⟩ = some (.int .u8 (us 3 : Nat)) ∧ w'.cell? ⟨k, 9, none⟩ = some (.int .u8 (us 4 : Nat)) ∧ w'.cell? ⟨k, 10, none⟩ = some (.int .u8 (us 5 : Nat)))
        (first
          | go_keep
          | with_reducible exact K5.out.cells
          | with_reducible exact K6.out.cells)
        (first
          | (go_at_call 96; refine (inLists_any m HM.out us HU1.out _).mono ?_; rintro e w5 ⟨V5, n5, c5, gs5, rfl, hrag, hc5, hcm5, b5⟩; have K5 := Lib.hid (HK.out.on (below_trans' (below_drewN (Below.refl _ _) 1) b5)); have S5 : Hid (Sets w5 w5.heap.size V5 n5 W) := Lib.hid (by rw [← HP.out]; exact hrag.sets); have hl5 : n5 + sizeL W ≤ 1048576 := by (have h1 := HE.out.2.2.2.2.2; rw [S5.out.len] at h1; exact h1))
          | (go_at_call 30; refine (countOpeners_any m _ _ _ W _ S5.out hl5).mono ?_; rw [HE.out.2.2.2.1, HE.out.2.2.2.2.1]; rintro e w6 ⟨rfl, b6⟩; have K6 := Lib.hid (K5.out.on b6)))
      all_goals
        have c6 := K6.out.c
        clear q0 q1 q2 q3 q4 r0 r1 r2 r3 r4 r5 r6 r7 r8 r9 r10
        go_wp2
        go_ret2
        exact ⟨rfl, c6⟩

/-! the model -/
theorem sets_one {w : World} {A : Option Addr} {q c : Nat} {xs : List Int} (t : TypeId) (h : Ints w w.heap.size A q xs) (hc : q ≤ c) (hcm : c ≤ 9223372036854775807) : Sets (w.alloc (.cells #[.slice A q c] t)) (w.alloc (.cells #[.slice A q c] t)).heap.size (some ⟨w.heap.size, 0, none⟩) 1 [xs] := by
  refine ⟨rfl, fun _ => ⟨_, rfl, by simp, fun j zs hj => ?_⟩⟩
  rcases j with _ | j
  · obtain rfl : xs = zs := by simpa using hj
    exact ⟨A, q, c, by simp [Addr.add], h.on ((Below.refl w.heap.size w).alloc (Nat.le_refl _) _), hc, hcm⟩
  · simp at hj
def cellI (w : World) (ad : Addr) (j : Nat) : Int := match w.cell? (ad.add j) with
  | some (.int _ v) => v
  | _ => 0
/-- the list that a slice shows -/
def readL (w : World) : Value → List Int
  | .slice (some ad) n _ => (List.range n).map (cellI w ad)
  | _ => []
theorem readL_is {w : World} {B n c : Nat} {A : Option Addr} {xs : List Int} (h : Ints w B A n xs) : readL w (.slice A n c) = xs := by
  rcases Nat.eq_zero_or_pos n with h0 | h0
  · subst h0
    rw [List.eq_nil_of_length_eq_zero h.len]
    cases A <;> simp [readL]
  · obtain ⟨ad, _, rfl, _, _, _⟩ := h.at_ h0
    unfold readL
    refine List.ext_getElem? (fun j => ?_)
    rcases Nat.lt_or_ge j n with hj | hj
    · obtain ⟨ad2, v, e, _, hv, hc⟩ := h.at_ hj
      injection e with e
      subst e
      rw [List.getElem?_map, List.getElem?_range hj, hv]
      unfold cellI
      simp [hc]
    · rw [List.getElem?_eq_none (by simp; exact hj), List.getElem?_eq_none (by rw [h.len]; exact hj)]
/-- how many keys are still to come -/
def leftK (m : Mk) (w : World) (kv ok : Value) : Nat := match ok with
  | .bool true => (nextAll m (readL w kv)).length + 1
  | _ => 0
/-- the key at hand of the model's walk -/
def HandK (w : World) (n : Nat) (kv : Value) (more : Bool) (R : List (List Int)) : Prop :=
  (more = false ∧ R = []) ∨ ∃ A c y R', kv = .slice A n c ∧ more = true ∧ R = y :: R' ∧ Ints w w.heap.size A n y ∧ n ≤ c ∧ c ≤ 9223372036854775807
theorem frees_swap {p q : Nat → Nat → Bool} {xs ys : List Int} (hl : xs.length = ys.length) (h : ∀ i, i < xs.length → p i (xs.getD i 0).toNat = q i (ys.getD i 0).toNat) : frees p 0 xs = frees q 0 ys := by
  unfold frees
  rw [Bool.eq_iff_iff, List.all_eq_true, List.all_eq_true, ← hl]
  constructor <;> intro h1 i hi <;> have h2 := h1 i hi <;> have h3 := h i (List.mem_range.1 hi)
  · rw [← h3]; exact h2
  · rw [h3]; exact h2
/-- a worn key may open the lock that one key opens exactly if that key is near to it -/
theorem near_is {m : Mk} {xs ys : List Int} (hx : isKeyB m xs = true) (hy : isKeyB m ys = true) (t : Int) (k : Nat) : frees (mayP (setP (lockOf m.C.toNat m.D.toNat (hullP [ys]))) t k) 0 xs = frees (nearP xs t k) 0 ys := by
  obtain ⟨hm, lx, dx, _⟩ := key_facts hx
  obtain ⟨_, ly, dy, _⟩ := key_facts hy
  obtain ⟨m1, m2, m3, m4, _⟩ := Mk.ok_true hm
  refine frees_swap (by omega) (fun i hi => ?_)
  have ex : xs[i]? = some (xs[i]'hi) := List.getElem?_eq_getElem _
  have ey : ys[i]? = some (ys[i]'(by omega)) := List.getElem?_eq_getElem _
  generalize xs[i]'hi = u at ex
  generalize ys[i]'(by omega) = v at ey
  obtain ⟨u0, u1⟩ := allIn_at dx ex
  obtain ⟨v0, v1⟩ := allIn_at dy ey
  unfold mayP nearP
  rw [getD_at ex, getD_at ey, show ((u.toNat : Nat) : Int) = u by omega]
  refine someAt_congr (fun x => freeAt_congr (fun e he => ?_) t x) u k
  have hh : ∀ d : Nat, hullP [ys] i d = decide (v = (d : Int)) := fun d => by
    unfold hullP
    rw [List.any_cons, List.any_nil, Bool.or_false, getD_at ey]
  rcases Nat.lt_or_ge e m.D.toNat with h1 | h1
  · rw [setP_lockOf (by omega) h1, hh]
    rw [Bool.eq_iff_iff, decide_eq_true_eq, decide_eq_true_eq]
    omega
  · have e1 : setP (lockOf m.C.toNat m.D.toNat (hullP [ys])) i e = false := by
      unfold setP
      rw [getD_list (lockOf_at (by omega)), List.any_eq_false]
      intro z hz
      obtain ⟨d, hd, _, rfl⟩ := setOf_mem.1 hz
      simp
      omega
    rw [e1, decide_eq_false (by omega)]

set_option maxRecDepth 100000 in
set_option maxHeartbeats 8000000 in
theorem specWornNeighbours_any (m : Mk) (A : Option Addr) (n c : Nat) (xs : List Int) (wr t : Int) (w : World) (h : Ints w w.heap.size A n xs) (hn : n ≤ 1048576) (hc : n ≤ c) (hcm : c ≤ 9223372036854775807) :
    Calls Try.prog 69 #[.agg #[.int .i64 m.C, .int .i64 m.D, .int .i64 m.S, .int .i64 m.M, .int .i64 m.L], .slice A n c, .int .i64 wr, .int .i64 t] w fun e w' => e = .returned (.tuple #[.int .i64 (wnV m xs wr t), .int .i64 (wnE m xs wr t)]) ∧ Below w.heap.size w w' := by
  have b0 := (Below.refl w.heap.size w).alloc (Nat.le_refl _) (.cells #[.int .i64 m.C, .int .i64 m.D, .int .i64 m.S, .int .i64 m.M, .int .i64 m.L] 25)
  have hx := Boxed.new w 25 m
  have HI := Lib.hid h
  by_cases hz : ktE m xs = 0
  rotate_left
  · obtain ⟨e1, e2⟩ := wn_bad (wr := wr) (t := t) hz
    rw [e1, e2]; clear e1 e2
    obtain ⟨v, hv⟩ : ∃ v, ktE m xs = v := ⟨_, rfl⟩
    rw [hv] at hz ⊢
    have HV := Lib.hid hv
    have hq : (v != 0) = true := by simpa using hz
    have hq2 : (v == 0) = false := by simpa using hz
    clear hz hv
    go_enter Try.func69, Try.ntmps69
    go_wp2_with fail
    refine (l02Code_any m A n c xs _ (h.on b0) hn hc hcm).mono ?_
    rw [HV.out]
    rintro e w1 ⟨rfl, b1⟩
    have c1 := below_trans' b0 b1
    clear b0 b1 hx
    go_wp2
    go_ret2
    exact ⟨rfl, c1⟩
  have HZ := Lib.hid hz
  rcases hF : isFit wr t with _ | _
  · obtain ⟨e1, e2⟩ := wn_fit hz hF
    rw [e1, e2]; clear e1 e2 hz
    go_enter Try.func69, Try.ntmps69
    go_wp2_with fail
    refine (l02Code_any m A n c xs _ (h.on b0) hn hc hcm).mono ?_
    rw [HZ.out]
    rintro e w1 ⟨rfl, b1⟩
    have c1 := below_trans' b0 b1
    clear b0 b1 hx
    go_wp2_with fail
    refine (l08Numbers_any wr t _ false hF).mono ?_
    rintro e w' ⟨rfl, rfl⟩
    go_wp2
    go_ret2
    exact ⟨rfl, c1⟩
  obtain ⟨r0, r1, t0, t1⟩ := fit_facts hF
  obtain ⟨rn, rfl⟩ : ∃ rn : Nat, wr = (rn : Int) := ⟨wr.toNat, by omega⟩
  have hpl : plc (rn : Int) = rn + 1 := by unfold plc; omega
  have HE := Lib.hid (wn_yes hz hF)
  rw [hpl] at HE
  have HV : Hid (wnV m xs (rn : Int) t = (((allKeys m).filter (frees (nearP xs t (rn + 1)) 0)).length : Int)) := Lib.hid (by rw [HE.out.2.1, op_all])
  rw [HE.out.1]
  obtain ⟨hm, hk⟩ := kt_keyW hz
  obtain ⟨_, hlen, hdep, _⟩ := key_facts hk
  obtain ⟨m1, m2, m3, m4, m5, m6, m7, m8, m9, m10, m11⟩ := Mk.ok_true hm
  have hCn : (n : Int) = m.C := by have := h.len; omega
  have hmax : (allKeys m).length ≤ 262144 := by
    have := Nat.le_trans (keys_count m4 m.C.toNat []) (pow8 (by omega))
    unfold allKeys
    omega
  have HMX := Lib.hid hmax
  have HM := Lib.hid hm
  have HKY := Lib.hid hk
  have HF := Lib.hid hF
  have HD := Lib.hid (key_seven hk)
  have HCN := Lib.hid hCn
  have HFA := Lib.hid (l02First_any m hm m.C.toNat)
  have HMM := Lib.hid (And.intro m1 (And.intro m2 (And.intro m3 m4)))
  clear hz hF hpl hm hk hlen hdep m1 m2 m3 m4 m5 m6 m7 m8 m9 m10 m11 hmax hCn
  go_enter Try.func69, Try.ntmps69
  go_wp2_with fail
  refine (l02Code_any m A n c xs _ (h.on b0) hn hc hcm).mono ?_
  rw [HZ.out]
  rintro e w1 ⟨rfl, b1⟩
  have c1 := below_trans' b0 b1
  have x1 := hx.on b1
  clear b0 b1 hx
  go_wp2_with fail
  refine (l08Numbers_any _ t _ true HF.out).mono ?_
  rintro e w' ⟨rfl, rfl⟩
  obtain ⟨q0, q1, q2, q3, q4⟩ := x1.cells
  go_wp2_with fail
  clear q0 q1 q2 q3 q4
  refine (HFA.out none 0 0 [] _ _ (by have := HMM.out; omega) (Own.nil _ (Nat.le_refl _)) (Nat.le_refl _) (by omega) (by omega) (fun _ => ⟨rfl, rfl⟩) rfl).mono ?_
  rintro e w2 ⟨A2, q2', c2', ok, y, rfl, o2, hq2, hc2, hm2, b2, t2⟩
  rcases t2 with ⟨rfl, t2⟩ | ⟨rfl, t2⟩
  rotate_left
  · exact absurd t2 (all_some HM.out)
  obtain ⟨R, hall⟩ : ∃ R, allKeys m = y :: R := by
    have t2' : (allKeys m).head? = some y := t2
    rcases he : allKeys m with _ | ⟨y', R⟩
    · rw [he] at t2'; cases t2'
    · rw [he] at t2'
      injection t2' with t2'
      exact ⟨R, by rw [t2']⟩
  have hyl : q2' = n := by
    have h1 := key_len (m := m) (x := y) (by rw [hall]; simp) HM.out
    have h2 := o2.1
    have := HCN.out
    omega
  subst hyl
  have X2 := Lib.hid (x1.on b2)
  have C2 := Lib.hid (below_trans' c1 b2)
  have H2 : Hid (HandK w2 q2' (.slice A2 q2' c2') true (allKeys m)) := Lib.hid (.inr ⟨A2, c2', y, R, rfl, rfl, hall, o2.ints, hc2, hm2⟩)
  clear hall o2 b2 x1 c1 t2 HFA hc2 hm2 hq2
  go_wp2
  go_loopw [11, 12, 13] (fun nv kv ov wr => ∃ (yss R : List (List Int)) (more : Bool), nv = .int .i64 (((yss.filter (frees (nearP xs t (rn + 1)) 0)).length : Nat) : Int) ∧ ov = .bool more ∧ Hid (allKeys m = yss ++ R) ∧ Hid (HandK wr q2' kv more R) ∧ Hid (Boxed wr w.heap.size 25 m) ∧ Hid (Below w.heap.size w wr)) (fun _ kv ov wr => leftK m wr kv ov)
  case atStart => exact ⟨[], allKeys m, true, rfl, rfl, Lib.hid rfl, H2, X2, C2⟩
  case round =>
    obtain ⟨yss, R, more, rfl, rfl, hall, hhand, hbox, hb⟩ := hrel
    clear H2 X2 C2
    rcases hhand.out with ⟨rfl, rfl⟩ | ⟨A3, c3, y3, R', rfl, rfl, rfl, hi3, hc3, hm3⟩
    · have HQ : Hid (wnV m xs (rn : Int) t = (((yss.filter (frees (nearP xs t (rn + 1)) 0)).length : Nat) : Int)) := Lib.hid (by rw [HV.out, hall.out, List.append_nil])
      have C := hb.out
      go_wp2
      go_ret2
      exact ⟨ret_int2 HQ.out.symm rfl, C⟩
    · have HNX := Lib.hid (next_of HM.out hall.out)
      have HK3 := Lib.hid (all_are_keys HM.out (show y3 ∈ allKeys m by rw [hall.out]; simp))
      have HRD := Lib.hid (readL_is (c := c3) hi3)
      have HI3 := Lib.hid hi3
      have hlen3 : (yss.filter (frees (nearP xs t (rn + 1)) 0)).length < 262144 := by
        have h1 := congrArg List.length hall.out
        have h2 := HMX.out
        have h3 := List.length_filter_le (frees (nearP xs t (rn + 1)) 0) yss
        rw [List.length_append, List.length_cons] at h1
        omega
      have g1 : IntKind.i64.wrap ((((yss.filter (frees (nearP xs t (rn + 1)) 0)).length : Nat) : Int) + 1) = (((yss.filter (frees (nearP xs t (rn + 1)) 0)).length : Nat) : Int) + 1 := IntWalk.i64_in _ (by omega)
      have bA := (Below.refl wr.heap.size wr).alloc (Nat.le_refl _) (.cells #[.slice A3 q2' c3] 39)
      have S4 := sets_one 39 hi3 hc3 hm3
      have X4 := Lib.hid (hbox.out.on bA)
      have C4 := Lib.hid (below_trans' hb.out bA)
      have I4 := Lib.hid (HI3.out.on bA)
      obtain ⟨q0, q1, q2, q3, q4⟩ := hbox.out.cells
      clear hi3 bA hhand
      go_wp2_with fail
      refine (l04Hull_any m HM.out _ _ _ [y3] _ S4 (by omega) (fun k ys hy => by
        rcases k with _ | k
        · obtain rfl : y3 = ys := by simpa using hy
          exact (key_facts HK3.out).2.1
        · simp at hy)).mono ?_
      rintro e w5 ⟨V5, n5, c5, rfl, hs5, hc5, hcm5, b5, _⟩
      have X5 := Lib.hid (X4.out.on b5)
      have C5 := Lib.hid (below_trans' C4.out b5)
      have I5 := Lib.hid (I4.out.on b5)
      have S5 := Lib.hid hs5
      have hl5 : n5 + sizeL (lockOf m.C.toNat m.D.toNat (hullP [y3])) ≤ 1048576 := by
        have h1 := lockOf_sizeW (C := m.C.toNat) (D := m.D.toNat) (p := hullP [y3]) (by have := HMM.out; omega) (by have := HMM.out; omega)
        rw [hs5.len] at h1
        exact h1
      have hqn : q2' ≤ n5 := by
        have h1 := hs5.len
        rw [lockOf_len] at h1
        have := HCN.out
        omega
      obtain ⟨bb, hbb⟩ : ∃ bb, frees (nearP xs t (rn + 1)) 0 y3 = bb := ⟨_, rfl⟩
      have HBB := Lib.hid hbb
      have HNI := Lib.hid ((near_is HKY.out HK3.out t (rn + 1)).trans hbb)
      clear q0 q1 q2 q3 q4 S4 X4 C4 I4 b5 hs5 hbb
      go_wp2_with fail
      refine (l08Key_any _ _ _ (lockOf m.C.toNat m.D.toNat (hullP [y3])) _ _ _ xs rn t _ S5.out hl5 (fun i ys hy => by
        have hi : i < m.C.toNat := by have := (List.getElem?_eq_some_iff.1 hy).1; rw [lockOf_len] at this; exact this
        rw [lockOf_at hi] at hy
        injection hy with hy
        subst hy
        exact rise_seven (rise_setOf (M := m.D) _ _ (by have := HMM.out; omega)) HMM.out.2.2.2) (HI.out.on C5.out) hqn HD.out (by omega) bb _ HNI.out rfl).mono ?_
      rintro e w6 ⟨rfl, b6⟩
      have X6 := Lib.hid (X5.out.on b6)
      have C6 := Lib.hid (below_trans' C5.out b6)
      have I6 := Lib.hid (I5.out.on b6)
      obtain ⟨q0, q1, q2, q3, q4⟩ := X6.out.cells
      have HCUT := Lib.hid (key_facts HK3.out).2.2.1
      clear X5 C5 I5 S5 b6
      rcases bb with _ | _
      all_goals
        go_wp2_with fail
        refine (l02Next_any m HM.out _ _ _ y3 _ I6.out HCN.out hc3 HCUT.out).mono ?_
        rintro e w7 ⟨A7, q7, c7, ok, y', rfl, o7, hq7, hc7, hm7, b7, t7⟩
        have X7 := Lib.hid (X6.out.on b7)
        have C7 := Lib.hid (below_trans' C6.out b7)
        clear q0 q1 q2 q3 q4 b7
        rcases t7 with ⟨rfl, t7⟩ | ⟨rfl, t7⟩
        · rw [HNX.out] at t7
          rcases R' with _ | ⟨y2, R''⟩
          · cases t7
          · obtain rfl : y2 = y' := by injection t7
            have hy2 : q7 = q2' := by
              have h1 := key_len (m := m) (x := y2) (by rw [hall.out]; simp) HM.out
              have h2 := o7.1
              have := HCN.out
              omega
            subst hy2
            have HA7 : Hid (allKeys m = (yss ++ [y3]) ++ y2 :: R'') := Lib.hid (by rw [hall.out]; simp)
            have HN7 := Lib.hid (next_of HM.out HA7.out)
            have HR7 := Lib.hid (readL_is (c := c7) o7.ints)
            have H7 : Hid (HandK w7 q7 (.slice A7 q7 c7) true (y2 :: R'')) := Lib.hid (.inr ⟨A7, c7, y2, R'', rfl, rfl, rfl, o7.ints, hc7, hm7⟩)
            have HCT : Hid ((yss ++ [y3]).filter (frees (nearP xs t (rn + 1)) 0) = yss.filter (frees (nearP xs t (rn + 1)) 0) ++ (if frees (nearP xs t (rn + 1)) 0 y3 then [y3] else [])) := Lib.hid (by
              rw [List.filter_append]
              congr 1
              rw [List.filter_cons]
              split <;> rfl)
            rw [HBB.out] at HCT
            clear t7 o7
            go_wp2
            go_roundw
            case rel => exact ⟨yss ++ [y3], y2 :: R'', true, by rw [HCT.out]; simp, rfl, HA7, H7, X7, C7⟩
            case measure => simp only [leftK]; rw [HRD.out, HNX.out, HR7.out, HN7.out]; simp
        · rw [HNX.out] at t7
          subst t7
          have HA7 : Hid (allKeys m = (yss ++ [y3]) ++ []) := Lib.hid (by rw [hall.out]; simp)
          have HCT : Hid ((yss ++ [y3]).filter (frees (nearP xs t (rn + 1)) 0) = yss.filter (frees (nearP xs t (rn + 1)) 0) ++ (if frees (nearP xs t (rn + 1)) 0 y3 then [y3] else [])) := Lib.hid (by
            rw [List.filter_append]
            congr 1
            rw [List.filter_cons]
            split <;> rfl)
          rw [HBB.out] at HCT
          clear o7
          go_wp2
          go_roundw
          case rel => exact ⟨yss ++ [y3], [], false, by rw [HCT.out]; simp, rfl, HA7, Lib.hid (.inl ⟨rfl, rfl⟩), X7, C7⟩
          case measure => simp only [leftK]; omega

end Go.Proofs.Ytbfnffecmglgfaa
