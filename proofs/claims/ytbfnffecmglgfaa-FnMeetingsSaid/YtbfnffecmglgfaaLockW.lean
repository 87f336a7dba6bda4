/- The laws' functions on locks. -/
import Derived.Test.YtbfnffecmglgfaaSets
import Derived.Test.YtbfnffecmglgfaaDraw
namespace Go.Proofs.Ytbfnffecmglgfaa
open Go.RowKit

theorem szLock_any (V : Option Addr) (n c : Nat) (yss : List (List Int)) (left : Int) (w : World) (h : Sets w w.heap.size V n yss) (l0 : 0 ≤ left) (l1 : left ≤ 1048576) (hn : n ≤ 9223372036854775807) :
    Calls Try.prog 81 #[.agg #[.slice V n c], .int .i64 left] w fun e w' => (∃ r, e = .returned (.int .i64 r) ∧ Fits left n yss r) ∧ Below w.heap.size w w' := by
  have c0 := (Below.refl w.heap.size w).alloc (Nat.le_refl _) (.cells #[.slice V n c] 86)
  have h0 := h.on c0
  go_enter Try.func81, Try.ntmps81
  go_wp2_with fail
  refine (szLists_any _ _ _ yss left _ h0 l0 l1 hn).mono ?_
  rintro e w' ⟨⟨r, rfl, hr⟩, rfl⟩
  rcases hr with rfl | ⟨hr, hr0⟩
  · go_wp2
    go_ret
    exact ⟨⟨_, rfl, .inl rfl⟩, c0⟩
  · have hneg : ¬ r < 0 := by omega
    have HR := Lib.hid hr
    clear hr
    go_wp2
    go_ret
    exact ⟨⟨_, rfl, .inr ⟨HR.out, hr0⟩⟩, c0⟩

set_option maxHeartbeats 1000000 in
theorem toLock_any (V : Option Addr) (n c : Nat) (yss : List (List Int)) (w : World) (h : Sets w w.heap.size V n yss) (hn : n + sizeL yss ≤ 1048576) :
    Calls Try.prog 82 #[.agg #[.slice V n c]] w (GivesLock w yss) := by
  have c0 := ((((Below.refl w.heap.size w).alloc (Nat.le_refl _) (.cells #[.slice V n c] 86)).alloc (by simp) (.cells #[.slice none 0 0] 30)).alloc (by simp; omega) (.cells #[.slice none 0 0] 30))
  have h0 := h.on c0
  have k1 := (Cell1.new (w.alloc (.cells #[.slice V n c] 86)) 30 (.slice none 0 0)).alloc (.cells #[.slice none 0 0] 30)
  have k2 := Cell1.new ((w.alloc (.cells #[.slice V n c] 86)).alloc (.cells #[.slice none 0 0] 30)) 30 (.slice none 0 0)
  go_enter Try.func82, Try.ntmps82
  go_wp2_with fail
  refine (toLists_any _ _ _ yss _ h0 hn).mono ?_
  rintro e w1 ⟨V1, n1, c1, gs, rfl, hrag, hc1, hcm, b1⟩
  have HR := Lib.hid hrag
  have C1 := Lib.hid (c0.trans (b1.mono c0.size))
  have K1 := k1.on b1
  have K2 := k2.on b1
  clear h0 hrag c0
  simp only [World.size_alloc] at K1 K2
  have f1 := K1.thawed
  have f2 := K2.thawed
  have q1 := K1.cell
  have q2 := K2.cell
  clear k1 k2 b1
  go_wp2
  have L1 := (K1.other (p := ⟨w.heap.size + 1 + 1, 0, none⟩) (by show w.heap.size + 1 ≠ w.heap.size + 1 + 1; omega) (.slice V1 n1 c1)).put (.slice V1 n1 c1)
  have C2 := (C1.out.setCell (p := ⟨w.heap.size + 1 + 1, 0, none⟩) (by show w.heap.size ≤ w.heap.size + 1 + 1; omega) (.slice V1 n1 c1)).setCell (p := ⟨w.heap.size + 1, 0, none⟩) (by show w.heap.size ≤ w.heap.size + 1; omega) (.slice V1 n1 c1)
  have R2 := (HR.out.asetCell (p := ⟨w.heap.size + 1 + 1, 0, none⟩) (by simp) (.slice V1 n1 c1)).asetCell (p := ⟨w.heap.size + 1, 0, none⟩) (by simp) (.slice V1 n1 c1)
  have r0 := L1.cell
  refine bodyPost_ret (v := .agg #[.slice V1 n1 c1]) (by simp [results, Try.results82, go_sem, r0]) rfl ⟨V1, n1, c1, gs, rfl, R2.more (by simp; omega), hc1, hcm, C2⟩

theorem eqLock_true (V V' : Option Addr) (n c c' : Nat) (yss : List (List Int)) (w : World) (h : Sets w w.heap.size V n yss) (h' : Sets w w.heap.size V' n yss) (hn : n + sizeL yss ≤ 1048576) :
    Calls Try.prog 84 #[.agg #[.slice V n c], .agg #[.slice V' n c']] w fun e w' => e = .returned (.bool true) ∧ Below w.heap.size w w' := by
  have c0 := ((Below.refl w.heap.size w).alloc (Nat.le_refl _) (.cells #[.slice V n c] 30)).alloc (by simp) (.cells #[.slice V' n c'] 30)
  have h0 := h.on c0
  have h1 := h'.on c0
  go_enter Try.func84, Try.ntmps84
  go_wp2_with fail
  refine (eqSets_true _ _ _ _ _ yss _ h0 h1 hn).mono ?_
  rintro e w' ⟨rfl, q, rfl⟩
  have c1 := below_drewN c0 q
  go_wp2
  go_ret
  exact ⟨rfl, c1⟩

theorem markLock_any (V : Option Addr) (n c lo : Nat) (gs : List (Option Addr × Nat × Nat)) (yss : List (List Int)) (k : Int) (w : World) (h : Rag w lo V n gs yss) (hn : n + sizeL yss ≤ 1048576) (k0 : 0 ≤ k) (k1 : k ≤ 4000000) :
    Calls Try.prog 85 #[.agg #[.slice V n c], .int .i64 k] w fun e w' => e = .returned (.int .i64 (rAt k yss n)) ∧ Rag w' lo V n gs (marksR k yss) ∧ ∀ hi, Top gs hi → Apart lo hi w w' := by
  have c0 := (Below.refl w.heap.size w).alloc (Nat.le_refl _) (.cells #[.slice V n c] 30)
  have h0 := h.on c0
  clear h
  go_enter Try.func85, Try.ntmps85
  go_wp2_with fail
  refine (markRag_any _ _ _ _ _ yss k _ h0 hn k0 k1).mono ?_
  rintro e w' ⟨rfl, h2, b2⟩
  have c2 := Lib.hid b2
  clear b2
  go_wp2
  go_ret
  exact ⟨rfl, h2, fun hi ht => (c2.out hi ht).before c0⟩

theorem heldLock_any (V : Option Addr) (n c : Nat) (yss : List (List Int)) (k : Int) (w : World) (h : Sets w w.heap.size V n (marksR k yss)) (hl : yss.length = n) (hn : n + sizeL yss ≤ 1048576) (k0 : 0 ≤ k) (k1 : k ≤ 4000000) :
    Calls Try.prog 86 #[.agg #[.slice V n c], .int .i64 k] w fun e w' => e = .returned (.int .i64 (rAt k yss n)) ∧ Below w.heap.size w w' := by
  have c0 := (Below.refl w.heap.size w).alloc (Nat.le_refl _) (.cells #[.slice V n c] 30)
  have h0 := h.on c0
  have hneg : ¬ rAt k yss n < 0 := by
    have := (rAt_range (i := n) k0 k1 (show sizeL yss ≤ 1048576 by omega) (by omega)).1
    omega
  clear h
  go_enter Try.func86, Try.ntmps86
  go_wp2_with fail
  refine (heldSets_any _ _ _ yss k _ h0 hn k0 k1).mono ?_
  rintro e w' ⟨rfl, rfl⟩
  go_wp2
  go_ret
  exact ⟨rfl, c0⟩

/-! like -/
theorem likeInts_quiet' (A A' : Option Addr) (n c c' : Nat) (xs : List Int) (w : World) (h : Ints w w.heap.size A n xs) (h' : Ints w w.heap.size A' n xs) (hn : n ≤ 1048576) :
    Calls Try.prog 50 #[.slice A n c, .slice A' n c'] w fun e w' => e = .returned (.bool true) ∧ ∃ q, w' = w.drewN q := by
  go_enter Try.func50, Try.ntmps50
  go_wp2
  go_loopw [5] (fun i wr => ∃ k q : Nat, k ≤ n ∧ i = .int .i64 k ∧ wr = w.drewN q) (fun i _ => n - (intOf i).toNat)
  case atStart => exact ⟨0, 0, Nat.zero_le _, rfl, rfl⟩
  case round =>
    obtain ⟨k, q, hk, rfl, rfl⟩ := hrel
    by_cases hlt : k < n
    · obtain ⟨ad, v, rfl, hab, hv, hc⟩ := h.at_ hlt
      obtain ⟨ad', v', rfl, hab', hv', hc'⟩ := h'.at_ hlt
      obtain rfl : v = v' := by rw [hv] at hv'; injection hv'
      clear hv hv'
      go_wp2
      go_quiet (fail)
      go_wp2
      go_roundw
      case rel => exact ⟨k + 1, _, by omega, by go_num, rfl⟩
      case measure => simp [intOf]; omega
    · go_wp2
      go_ret
      exact ⟨rfl, q, rfl⟩

theorem likeSets_true (V V' : Option Addr) (n c c' : Nat) (yss : List (List Int)) (w : World) (h : Sets w w.heap.size V n yss) (h' : Sets w w.heap.size V' n yss) (hn : n + sizeL yss ≤ 1048576) :
    Calls Try.prog 36 #[.slice V n c, .slice V' n c'] w fun e w' => e = .returned (.bool true) ∧ ∃ q, w' = w.drewN q := by
  have HN := Lib.hid hn
  have hn1 : n ≤ 1048576 := by omega
  clear hn
  go_enter Try.func36, Try.ntmps36
  go_wp2
  go_loopw [5] (fun i wr => ∃ k q : Nat, k ≤ n ∧ i = .int .i64 k ∧ wr = w.drewN q) (fun i _ => n - (intOf i).toNat)
  case atStart => exact ⟨0, 0, Nat.zero_le _, rfl, rfl⟩
  case round =>
    obtain ⟨k, q, hk, rfl, rfl⟩ := hrel
    by_cases hlt : k < n
    · obtain ⟨ad, ys, A1, q1, c1, rfl, _, hy, hc, hi, _, _⟩ := h.at_ hlt
      obtain ⟨ad', ys', A2, q2, c2, rfl, _, hy', hc', hi', _, _⟩ := h'.at_ hlt
      obtain rfl : ys = ys' := by rw [hy] at hy'; injection hy'
      obtain rfl : q1 = q2 := by rw [← hi.len, ← hi'.len]
      have hq1 : q1 ≤ 1048576 := by have := fits_at HN.out hy; have := hi.len; omega
      have HI := Lib.hid hi
      have HI' := Lib.hid hi'
      have i0 : (0 : Int) ≤ (k : Int) := by omega
      have i1 : (k : Int) < (n : Int) := by omega
      clear hy hy' hi hi'
      go_wp2
      go_quiet ((go_at_call 50; exact quiet_add_on (likeInts_quiet' _ _ _ _ _ ys _ (ints_drewN HI.out _) (ints_drewN HI'.out _) hq1)))
      go_wp2
      go_roundw
      case rel => exact ⟨k + 1, _, by omega, by go_num, rfl⟩
      case measure => simp [intOf]; omega
    · go_wp2
      go_ret
      exact ⟨rfl, q, rfl⟩

theorem likeLocks_true (V V' : Option Addr) (n c c' : Nat) (yss : List (List Int)) (w : World) (h : Sets w w.heap.size V n yss) (h' : Sets w w.heap.size V' n yss) (hn : n + sizeL yss ≤ 1048576) :
    Calls Try.prog 23 #[.agg #[.slice V n c], .agg #[.slice V' n c']] w fun e w' => e = .returned (.bool true) ∧ Below w.heap.size w w' := by
  have c0 := ((Below.refl w.heap.size w).alloc (Nat.le_refl _) (.cells #[.slice V n c] 30)).alloc (by simp) (.cells #[.slice V' n c'] 30)
  have h0 := h.on c0
  have h1 := h'.on c0
  go_enter Try.func23, Try.ntmps23
  go_wp2_with fail
  refine (likeSets_true _ _ _ _ _ yss _ h0 h1 hn).mono ?_
  rintro e w' ⟨rfl, q, rfl⟩
  have c1 := below_drewN c0 q
  go_wp2
  go_ret
  exact ⟨rfl, c1⟩

end Go.Proofs.Ytbfnffecmglgfaa
