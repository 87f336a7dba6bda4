/- The program's walk over the blanks that fit a choice: isMetBy, blanks. -/
import Derived.Test.YtiijkcebloefbaaDoorChoice
import Derived.Deep.RegionWith
namespace Go.Proofs.YtiijkcebloefbaaDoor
open Go Go.RowKit
attribute [local go_sem] Oper.semAt_some

/-- whether a blank enters exactly the keyways that are wanted -/
def metB (xs : List Int) (f : Nat → Bool) (b : Int) : Bool := (List.range xs.length).all (fun j => entB b (xs.getD j 0) == f j)
theorem metB_no {xs : List Int} {f : Nat → Bool} {b v : Int} {k : Nat} (hv : xs[k]? = some v) (h : (entB b v == f k) = false) : metB xs f b = false := by
  obtain ⟨hk, _⟩ := List.getElem?_eq_some_iff.1 hv
  unfold metB
  rw [List.all_eq_false]
  refine ⟨k, List.mem_range.2 hk, ?_⟩
  have : xs.getD k 0 = v := by rw [List.getD_eq_getElem?_getD, hv]; rfl
  rw [this]
  simpa using h
theorem metB_yes {xs : List Int} {f : Nat → Bool} {b : Int} {n k : Nat} (hl : xs.length = n) (hk : ¬ k < n) (h : ∀ j, j < k → ∀ v, xs[j]? = some v → (entB b v == f j) = true) : metB xs f b = true := by
  unfold metB
  rw [List.all_eq_true]
  intro j hj
  have hj' := List.mem_range.1 hj
  have hv : xs[j]? = some xs[j] := List.getElem?_eq_getElem hj'
  have := h j (by omega) _ hv
  have e : xs.getD j 0 = xs[j] := by rw [List.getD_eq_getElem?_getD, hv]; rfl
  rw [e]
  simpa using this
/-- .. just where the places that it enters are the indices -/
theorem met_is {xs ys : List Int} {n : Nat} (hl : xs.length = n) (hr : riseB (n : Int) ys = true) (b : Nat) : exP xs ys b = metB xs (fOf ys) (b : Int) := by
  subst hl
  have h1 := rise_set (by omega) hr
  have e1 : (xs.length : Int).toNat = xs.length := by omega
  rw [e1] at h1
  have h2 : entI (b : Int) xs xs.length = setOf xs.length (fun j => entB (b : Int) (xs.getD j 0)) := rfl
  unfold exP
  rw [h2]
  rcases hm : metB xs (fOf ys) (b : Int) with _ | _
  · refine decide_eq_false (fun he => ?_)
    unfold metB at hm
    rw [List.all_eq_false] at hm
    obtain ⟨j, hj, hne⟩ := hm
    have hj' := List.mem_range.1 hj
    have a1 := any_setOf (q := fun j => entB (b : Int) (xs.getD j 0)) hj'
    rw [he] at a1
    refine hne ?_
    unfold fOf
    rw [a1]
    simp
  · refine decide_eq_true ?_
    unfold metB at hm
    rw [List.all_eq_true] at hm
    rw [← h1]
    refine setOf_congr (fun d hd => ?_)
    have := hm d (List.mem_range.2 hd)
    simpa [fOf] using this

theorem enters_at (b v : Int) (y : Bool) (hy : entB b v = y) (w : World) (hb : 0 ≤ b) (hb' : b ≤ 4095) (hw : 0 ≤ v) (hw' : v ≤ 4095) :
    Calls Tryd.prog 33 #[.int .u16 b, .int .u16 v] w fun e w' => e = .returned (.bool y) ∧ w = w' := by
  subst hy; exact enters_any b v w hb hb' hw hw'

set_option maxRecDepth 100000 in
set_option maxHeartbeats 4000000 in
theorem isMetBy_any (g n : Nat) (xs : List Int) (f : Nat → Bool) (b : Int) (w : World) (h : Ways16 w g n xs) (hl : xs.length = n) (hn : n ≤ 8) (hb : 0 ≤ b) (hb' : b ≤ 4095) (hall : allIn 0 4095 xs = true) :
    Calls Tryd.prog 35 #[.agg #[.slice (some ⟨g, 0, none⟩) n n, .bool (f 0), .bool (f 1), .bool (f 2), .bool (f 3), .bool (f 4), .bool (f 5), .bool (f 6), .bool (f 7)], .int .u16 b] w fun e w' => e = .returned (.bool (metB xs f b)) ∧ Below w.heap.size w w' := by
  have HL := Lib.hid hl
  have HA := Lib.hid hall
  have hx := WBox.new w 47 (some ⟨g, 0, none⟩) n n f
  have hr := h.alloc (.cells #[.slice (some ⟨g, 0, none⟩) n n, .bool (f 0), .bool (f 1), .bool (f 2), .bool (f 3), .bool (f 4), .bool (f 5), .bool (f 6), .bool (f 7)] 47)
  have b0 := (Below.refl w.heap.size w).alloc (Nat.le_refl _) (.cells #[.slice (some ⟨g, 0, none⟩) n n, .bool (f 0), .bool (f 1), .bool (f 2), .bool (f 3), .bool (f 4), .bool (f 5), .bool (f 6), .bool (f 7)] 47)
  have c0 := hx.cells.1
  clear hl hall h
  go_enter Tryd.func35, Tryd.ntmps35
  go_wp2
  go_loopw [10] (fun i wr => ∃ k : Nat, k ≤ n ∧ i = .int .i64 k ∧ Hid (∀ j, j < k → ∀ v, xs[j]? = some v → (entB b v == f j) = true) ∧ Hid (WBox wr w.heap.size 47 (some ⟨g, 0, none⟩) n n f) ∧ Hid (Ways16 wr g n xs) ∧ Hid (Below w.heap.size w wr)) (fun i _ => n - (intOf i).toNat)
  case atStart => exact ⟨0, Nat.zero_le _, rfl, Lib.hid (fun j hj => absurd hj (by omega)), Lib.hid hx, Lib.hid hr, Lib.hid b0⟩
  case round =>
    clear hx hr b0 c0
    obtain ⟨k, hk, rfl, hall, hbox, hrow, hbl⟩ := hrel
    by_cases hlt : k < n
    · have hkl : k < xs.length := by rw [HL.out]; exact hlt
      have hv : xs[k]? = some xs[k] := List.getElem?_eq_getElem hkl
      obtain ⟨v, hve⟩ : ∃ v, xs[k] = v := ⟨_, rfl⟩
      rw [hve] at hv
      obtain ⟨v0, v1⟩ := allIn_at HA.out hv
      have hcv := hrow.out.cell hlt
      have hgv : xs.getD k 0 = v := by rw [List.getD_eq_getElem?_getD, hv]; rfl
      rw [hgv] at hcv
      have hst := hbox.out.bit (show k < 8 by omega)
      have HV := Lib.hid hv
      have i0 : (0 : Int) ≤ (k : Int) := by omega
      have i8 : (k : Int) < 8 := by omega
      have i1 : (k : Int) < (n : Int) := by omega
      clear hv hve hgv hkl
      rcases hen : (entB b v == f k) with _ | _
      rotate_left
      · have HS : Hid (∀ j, j < k + 1 → ∀ v, xs[j]? = some v → (entB b v == f j) = true) := Lib.hid (fun j hj u hu => by
          rcases Nat.lt_or_ge j k with h1 | h1
          · exact hall.out j h1 u hu
          · obtain rfl : j = k := by omega
            have e := HV.out
            rw [hu] at e
            injection e with e
            rw [e]; exact hen)
        go_wp2
        go_quiet ((go_at_call 33; exact quiet_left (enters_at b v _ rfl _ hb hb' v0 v1)))
        clear hst hcv
        go_wp2
        go_roundw
        case rel => exact ⟨k + 1, by omega, by go_num, HS, Lib.hid (hbox.out.drewN _), hrow, Lib.hid (below_drewN hbl.out _)⟩
        case measure => simp [intOf]; omega
      · have HE := Lib.hid (metB_no HV.out hen)
        go_wp2
        go_quiet ((go_at_call 33; exact quiet_left (enters_at b v _ rfl _ hb hb' v0 v1)))
        clear hst hcv
        go_wp2
        go_ret
        exact ⟨ret_bool HE.out.symm, below_drewN hbl.out _⟩
    · have HE := Lib.hid (metB_yes (f := f) (b := b) HL.out hlt hall.out)
      go_wp2
      go_ret
      exact ⟨ret_bool HE.out.symm, hbl.out⟩

end Go.Proofs.YtiijkcebloefbaaDoor
