/- MirrorKey, of the program and of the model. -/
import Derived.Test.YtpbimekfhdgdoaaPair
import Derived.Test.YtpbimekfhdgdoaaSNext
namespace Go.Proofs.Ytpbimekfhdgdoaa
open Go.RowKit

def mirL (m : Mk) (xs : List Int) : List Int := xs.map (fun v => m.D - 1 - v)
def mkL (m : Mk) (xs : List Int) : List Int := if ktE m xs = 0 then mirL m xs else []
theorem mk_yes {m : Mk} {xs : List Int} (h : ktE m xs = 0) : mkL m xs = mirL m xs := by unfold mkL; rw [if_pos h]
theorem mk_no {m : Mk} {xs : List Int} (h : ktE m xs ≠ 0) : mkL m xs = [] := by unfold mkL; rw [if_neg h]
theorem kt_key {m : Mk} {xs : List Int} (h : ktE m xs = 0) : m.ok = true ∧ isKeyB m xs = true := by
  rw [← code_one] at h
  obtain ⟨h1, h2⟩ := code_zero.1 h
  simp at h2
  exact ⟨h1, h2⟩
/-- the mirrored list after k rounds, in a row of zeros -/
def mirAt (m : Mk) (xs : List Int) (k : Nat) (j : Nat) : Value := .int .i64 (if j < k then m.D - 1 - xs.getD j 0 else 0)
theorem mirAt_set {m : Mk} {xs : List Int} {k : Nat} {v : Int} (hv : xs[k]? = some v) (j : Nat) : (if j = k then Value.int .i64 (m.D - 1 - v) else mirAt m xs k j) = mirAt m xs (k + 1) j := by
  unfold mirAt
  by_cases h : j = k
  · subst h
    rw [if_pos rfl, if_pos (by omega), List.getD_eq_getElem?_getD, hv]; rfl
  · rw [if_neg h]
    by_cases h2 : j < k
    · rw [if_pos h2, if_pos (by omega)]
    · rw [if_neg h2, if_neg (by omega)]
theorem mirL_len (m : Mk) (xs : List Int) : (mirL m xs).length = xs.length := by simp [mirL]
theorem mirL_at {m : Mk} {xs : List Int} {k : Nat} {v : Int} (hv : xs[k]? = some v) : mirL m (xs.take k) ++ [m.D - 1 - v] = mirL m (xs.take (k + 1)) := by
  obtain ⟨hk, rfl⟩ := List.getElem?_eq_some_iff.1 hv
  unfold mirL
  rw [List.take_succ_eq_append_getElem hk, List.map_append]; rfl

set_option maxRecDepth 100000 in
set_option maxHeartbeats 2000000 in
theorem mirrorKey_any (m : Mk) (A : Option Addr) (n c : Nat) (xs : List Int) (w : World) (h : Ints w w.heap.size A n xs) (hn : n ≤ 1048576) :
    Calls Try.prog 11 #[.agg #[.int .i64 m.C, .int .i64 m.D, .int .i64 m.S, .int .i64 m.M, .int .i64 m.L], .slice A n c] w
      (GivesList w (ktE m xs) (mkL m xs)) := by
  have b0 := (Below.refl w.heap.size w).alloc (Nat.le_refl _) (.cells #[.int .i64 m.C, .int .i64 m.D, .int .i64 m.S, .int .i64 m.M, .int .i64 m.L] 25)
  have hx := Boxed.new w 25 m
  have c0 := b0.alloc (by simp) (.cells #[.slice A n c] 26)
  have hl := Lists.one (c := c) 26 (h.on b0) hn
  rw [World.size_alloc] at hl
  have x0 := hx.alloc (.cells #[.slice A n c] 26)
  by_cases hz : ktE m xs = 0
  · obtain ⟨hm, hk⟩ := kt_key hz
    obtain ⟨m1, m2, m3, m4, m5, m6, m7, m8, m9, m10, m11⟩ := Mk.ok_true hm
    obtain ⟨_, hlen, hdep, _⟩ := key_facts hk
    have hn6 : n ≤ 6 := by have := h.len; omega
    have HD := Lib.hid hdep
    have HL := Lib.hid h.len
    rw [mk_yes hz, hz]
    have HZ := Lib.hid (show codeF m [xs] = 0 by rw [code_one]; exact hz)
    clear hz hm hk hdep hlen
    have hmk := run_make_row' (P := Try.prog) 26 2 (.int .i64 0) 8 Try.underlying26 Try.info2' rfl .i64 .i64 n (by omega) (by omega)
    go_enter Try.func11, Try.ntmps11
    go_wp2_with fail
    refine (codeFor_any m _ 1 _ [xs] _ hl (by omega)).mono ?_
    rw [HZ.out]
    rintro e w1 ⟨rfl, b1⟩
    have x1 := x0.on b1
    have HXL := Lib.hid x1.lt
    have c1 := below_trans' c0 b1
    have s1 := c1.size
    clear hl b0 c0 b1 hx x0
    go_wp2
    clear hmk
    go_loopw [22] (fun i wr => ∃ k : Nat, k ≤ n ∧ i = .int .i64 k ∧ wr.rowIs w1.heap.size 2 n (mirAt m xs k) ∧ Boxed wr w.heap.size 25 m ∧ Below w.heap.size w wr) (fun i _ => n - (intOf i).toNat)
    case atStart =>
      exact ⟨0, Nat.zero_le _, rfl, (World.rowIs_made w1 (.int .i64 0) n 2).congr (fun i _ => by simp [mirAt]), x1.alloc _, c1.alloc s1 _⟩
    case round =>
      obtain ⟨k, hk, rfl, hrow, hbox, hb⟩ := hrel
      by_cases hlt : k < n
      · obtain ⟨ad, v, rfl, hab, hv, hc⟩ := (h.below hb).at_ hlt
        obtain ⟨v0, v1⟩ := allIn_at HD.out hv
        have hst := hrow.cell hlt
        have hfz := hrow.frozen k
        obtain ⟨q0, q1, q2, q3, q4⟩ := hbox.cells
        have HV := Lib.hid hv
        have HX := Lib.hid hbox
        have HR := Lib.hid hrow
        have hlw := hbox.lt
        have i0 : (0 : Int) ≤ (k : Int) := by omega
        have i1 : (k : Int) < (n : Int) := by omega
        have g1 : IntKind.i64.wrap (m.D - 1) = m.D - 1 := IntWalk.i64_in _ (by omega)
        have g2 : IntKind.i64.wrap (m.D - 1 - v) = m.D - 1 - v := IntWalk.i64_in _ (by omega)
        clear hv hrow hbox x1 c1
        go_wp2
        go_roundw
        case rel => exact ⟨k + 1, by omega, by go_num, (HR.out.set k (.int .i64 (m.D - 1 - v))).congr (fun j _ => mirAt_set HV.out j), HX.out.grown (grown_set (p := ⟨w1.heap.size, k, none⟩) (World.grownBy.refl wr (some w1.heap.size)) rfl (.int .i64 (m.D - 1 - v))) (by intro e; injection e with e; have := HXL.out; omega), hb.setCell (by simp; omega) _⟩
        case measure => simp [intOf]; omega
      · have HE : Hid (∀ j, j < n → mirAt m xs k j = .int .i64 ((mirL m xs).getD j 0)) := Lib.hid (fun j hj => by
          unfold mirAt mirL
          rw [if_pos (by omega), List.getD_eq_getElem?_getD, List.getD_eq_getElem?_getD, List.getElem?_map, List.getElem?_eq_getElem (by rw [HL.out]; exact hj)]
          rfl)
        have HR := Lib.hid (hrow.congr (fun j hj => HE.out j hj))
        clear hrow hbox
        go_wp2
        go_ret2
        exact ⟨_, n, n, rfl, Own.of_row HR.out (by rw [mirL_len, HL.out]) (by omega), hn, Nat.le_refl _, by omega, hb⟩
  · rw [mk_no hz]
    obtain ⟨v, hv⟩ : ∃ v, ktE m xs = v := ⟨_, rfl⟩
    rw [hv] at hz ⊢
    have HV := Lib.hid (show codeF m [xs] = v by rw [code_one]; exact hv)
    have hq : (v != 0) = true := by simpa using hz
    clear hz hv
    go_enter Try.func11, Try.ntmps11
    go_wp2_with fail
    refine (codeFor_any m _ 1 _ [xs] _ hl (by omega)).mono ?_
    rw [HV.out]
    rintro e w1 ⟨rfl, b1⟩
    have c1 := below_trans' c0 b1
    clear hl b0 c0 b1
    go_wp2
    go_ret2
    exact ⟨none, 0, 0, rfl, Own.nil _ (Nat.le_refl _), by omega, by omega, by omega, c1⟩

set_option maxRecDepth 100000 in
set_option maxHeartbeats 4000000 in
theorem specMirrorKey_any (m : Mk) (A : Option Addr) (n c : Nat) (xs : List Int) (w : World) (h : Ints w w.heap.size A n xs) (hn : n ≤ 1048576) (hc : n ≤ c) (hcm : c ≤ 9223372036854775807) :
    Calls Try.prog 12 #[.agg #[.int .i64 m.C, .int .i64 m.D, .int .i64 m.S, .int .i64 m.M, .int .i64 m.L], .slice A n c] w
      (GivesList w (ktE m xs) (mkL m xs)) := by
  have b0 := (Below.refl w.heap.size w).alloc (Nat.le_refl _) (.cells #[.int .i64 m.C, .int .i64 m.D, .int .i64 m.S, .int .i64 m.M, .int .i64 m.L] 25)
  have hx := Boxed.new w 25 m
  by_cases hz : ktE m xs = 0
  · obtain ⟨hm, hk⟩ := kt_key hz
    obtain ⟨m1, m2, m3, m4, m5, m6, m7, m8, m9, m10, m11⟩ := Mk.ok_true hm
    obtain ⟨_, hlen, hdep, _⟩ := key_facts hk
    have hn6 : n ≤ 6 := by have := h.len; omega
    have HD := Lib.hid hdep
    have HL := Lib.hid h.len
    rw [mk_yes hz, hz]
    have HZ := Lib.hid hz
    obtain ⟨i0, hi, hz0, hz1, hz2⟩ := info_parts Try.info2'
    have HF := Lib.hid (And.intro hi (And.intro hz0 (And.intro hz1 hz2)))
    clear hz hm hk hdep hlen hi hz0 hz1 hz2
    go_enter Try.func12, Try.ntmps12
    go_wp2_with fail
    refine (l02Code_any m A n c xs _ (h.on b0) hn hc hcm).mono ?_
    rw [HZ.out]
    rintro e w1 ⟨rfl, b1⟩
    have x1 := hx.on b1
    have c1 := below_trans' b0 b1
    have s1 := c1.size
    clear b0 b1 hx
    go_wp2
    go_loopw [7, 8] (fun z i wr => ∃ k : Nat, k ≤ n ∧ i = .int .i64 k ∧ wr.ownsRow w.heap.size 2 1 z k (intsV (mirL m (xs.take k))) ∧ Boxed wr w.heap.size 25 m ∧ z.ownBlock ≠ some w.heap.size ∧ Below w.heap.size w wr) (fun _ i _ => n - (intOf i).toNat)
    case atStart =>
      exact ⟨0, Nat.zero_le _, rfl, rowNil s1, x1.alloc _, by have := x1.lt; simp [Value.ownBlock]; omega, c1.alloc s1 _⟩
    case round =>
      obtain ⟨k, hk, rfl, hrow, hbox, hne, hb⟩ := hrel
      by_cases hlt : k < n
      · obtain ⟨ad, v, rfl, hab, hv, hc1⟩ := (h.below hb).at_ hlt
        obtain ⟨v0, v1⟩ := allIn_at HD.out hv
        obtain ⟨q0, q1, q2, q3, q4⟩ := hbox.cells
        have HV := Lib.hid (mirL_at (m := m) hv)
        have HX := Lib.hid hbox
        have HR := Lib.hid hrow
        have HB := Lib.hid hb
        have HNE := Lib.hid hne
        have HC := Lib.hid ((hb.cell (p := ad.add k) (by rw [block_of_add]; exact hab)).symm.trans hc1)
        have hsz := hb.size
        have hlw := hbox.lt
        have j0 : (0 : Int) ≤ (k : Int) := by omega
        have j1 : (k : Int) < (n : Int) := by omega
        have g1 : IntKind.i64.wrap (m.D - 1) = m.D - 1 := IntWalk.i64_in _ (by omega)
        have g2 : IntKind.i64.wrap (m.D - 1 - v) = m.D - 1 - v := IntWalk.i64_in _ (by omega)
        clear hv hrow hbox x1 c1 hb hne
        go_wp2
        go_region_held3 (fun w' => w'.cell? ⟨w.heap.size, 1, none⟩ = some (.int .i64 m.D) ∧ w'.cell? (ad.add k) = some (.int .i64 v))
          (first | go_keep | exact ⟨X5.out.cells.2.1, (B5.out.cell (by rw [block_of_add]; exact hab)).trans HC.out⟩)
          (first
            | (refine step_append_lies _ (by rfl) _ _ _ (by rfl) w.heap.size 2 i0 _ 1 8 Try.underlying26 HF.out.1 HF.out.2.1 HF.out.2.2.1 HF.out.2.2.2 rfl (by omega) _ k (intsV (mirL m (xs.take k))) (by rfl) ((rowDrewN HR.out 1).alloc _) ⟨wr.heap.size, 0, none⟩ 1 1 [.int .i64 (m.D - 1 - v)] (by rfl) (by rfl) (World.news_of_block (cs := #[.int .i64 (m.D - 1 - v)]) (t := 2) (fr := (0, 0)) (heap_alloc_new (wr.drewN 1) _)) (by simp [Value.oneCell']) (by omega) (by unfold maxLen; omega) (by omega) (by simp; omega) (wr.heap.size + 1) (by simp) ?_; intro gg cap w5 hown1 hgrow hat hlt3; have X5 := Lib.hid (((HX.out.drewN 1).alloc (.cells #[.int .i64 (m.D - 1 - v)] 2)).grown hgrow (fun e => HNE.out e.symm)); have B5 := Lib.hid (((below_drewN HB.out 1).alloc hsz (.cells #[.int .i64 (m.D - 1 - v)] 2)).grown hgrow (by simp; omega) (fun q e => by have := rowBase HR.out q e; omega))))
        have HW := Lib.hid (show gg ≠ w.heap.size by
          rcases hat with e | e
          · exact fun e' => HNE.out (by rw [e, e'])
          · omega)
        rw [intsV_snoc] at hown1
        have R5 := Lib.hid hown1
        clear q0 q1 q2 q3 q4 hgrow hat hlt3 hown1
        go_wp2
        go_roundw
        case rel => exact ⟨k + 1, by omega, by go_num, by rw [← HV.out]; exact R5.out, X5.out, by simp [Value.ownBlock]; exact HW.out, B5.out⟩
        case measure => simp [intOf]; omega
      · obtain rfl : k = n := by omega
        rw [take_end HL.out hlt] at hrow
        obtain ⟨A2, c2, rfl, ho, hc2, hcm2⟩ := rowInts hrow (by rw [mirL_len, HL.out])
        have HO := Lib.hid (ho.more (Nat.le_refl _) (Nat.le_refl _) (Nat.le_refl _))
        clear hrow hbox ho
        go_wp2
        go_ret2
        exact ⟨A2, k, c2, rfl, HO.out, hn, hc2, hcm2, hb⟩
  · rw [mk_no hz]
    obtain ⟨v, hv⟩ : ∃ v, ktE m xs = v := ⟨_, rfl⟩
    rw [hv] at hz ⊢
    have HV := Lib.hid hv
    have hq : (v != 0) = true := by simpa using hz
    clear hz hv
    go_enter Try.func12, Try.ntmps12
    go_wp2_with fail
    refine (l02Code_any m A n c xs _ (h.on b0) hn hc hcm).mono ?_
    rw [HV.out]
    rintro e w1 ⟨rfl, b1⟩
    have c1 := below_trans' b0 b1
    go_wp2
    go_ret2
    exact ⟨none, 0, 0, rfl, Own.nil _ (Nat.le_refl _), by omega, by omega, by omega, c1⟩

end Go.Proofs.Ytpbimekfhdgdoaa
