/- l02Begins of the model: its contract. l02First of the model: its contract. l02First of the model: its walk. l02Next, NextKey and FirstKey of the model. The laws of NextKey and FirstKey. FirstKeys of the model. The law of FirstKeys. -/
import Derived.Test.YtgbicepneonkfaaRow
import Derived.Test.YtgbicepneonkfaaMay
import Derived.Laws.AppendOwnNone
import Derived.Deep.RegionHeld3
namespace Go.Proofs.Ytgbicepneonkfaa
open Go.RowKit

theorem begins_no3 {m : Mk} {xs : List Int} {k n : Nat} (hl : xs.length = n) (hk : k < n) (h : stepAt m.S xs k = false) : beginsB m xs = false := by
  unfold beginsB
  rw [show stepsB m.S xs = false from not_all_range (by rw [hl]; exact hk) h]; rfl
theorem begins_no4 {m : Mk} {xs : List Int} {k n : Nat} (hl : xs.length = n) (hk : k < n) (h : runOk m.M xs k = false) : beginsB m xs = false := by
  unfold beginsB
  rw [show runsB m.M xs = false from not_all_range (by rw [hl]; exact hk) h, Bool.and_false]
theorem begins_yes {m : Mk} {xs : List Int} {k n : Nat} (hl : xs.length = n) (hk : ¬ k < n) (h : ∀ j, j < k → (stepAt m.S xs j && runOk m.M xs j) = true) : beginsB m xs = true := by
  unfold beginsB
  rw [show stepsB m.S xs = true from all_range (k := k) (by rw [hl]; exact hk) (fun j hj => (Bool.and_eq_true_iff.1 (h j hj)).1), show runsB m.M xs = true from all_range (k := k) (by rw [hl]; exact hk) (fun j hj => (Bool.and_eq_true_iff.1 (h j hj)).2)]
  rfl
theorem both_next {m : Mk} {xs : List Int} {k : Nat} (h : ∀ j, j < k → (stepAt m.S xs j && runOk m.M xs j) = true) (h3 : stepAt m.S xs k = true) (h4 : runOk m.M xs k = true) : ∀ j, j < k + 1 → (stepAt m.S xs j && runOk m.M xs j) = true :=
  all_next (p := fun j => stepAt m.S xs j && runOk m.M xs j) h (by simp [h3, h4])

set_option maxRecDepth 100000 in
set_option maxHeartbeats 4000000 in
theorem l02Begins_any (m : Mk) (A : Option Addr) (n c : Nat) (xs : List Int) (w : World) (h : Ints w w.heap.size A n xs) (hn : n ≤ 1048576) (hm : m.ok = true) (hd : allIn 0 (m.D - 1) xs = true) :
    Calls Try.prog 135 #[.agg #[.int .i64 m.C, .int .i64 m.D, .int .i64 m.S, .int .i64 m.M, .int .i64 m.L], .slice A n c] w
      fun e w' => e = .returned (.bool (beginsB m xs)) ∧ Below w.heap.size w w' := by
  obtain ⟨m1, m2, m3, m4, m5, m6, m7, m8, m9, m10, m11⟩ := Mk.ok_true hm
  have HD := Lib.hid hd
  have HL := Lib.hid h.len
  have b0 := Lib.hid ((Below.refl w.heap.size w).alloc (Nat.le_refl _) (.cells #[.int .i64 m.C, .int .i64 m.D, .int .i64 m.S, .int .i64 m.M, .int .i64 m.L] 25))
  have hx := Lib.hid (Boxed.new w 25 m)
  clear hm hd
  go_enter Try.func135, Try.ntmps135
  go_wp2
  go_loopw [5, 6] (fun r i wr => ∃ k : Nat, k ≤ n ∧ i = .int .i64 k ∧ r = .int .i64 (runAt xs k) ∧ Hid (∀ j, j < k → (stepAt m.S xs j && runOk m.M xs j) = true) ∧ Boxed wr w.heap.size 25 m ∧ Below w.heap.size w wr) (fun _ i _ => n - (intOf i).toNat)
  case atStart => exact ⟨0, Nat.zero_le _, rfl, rfl, Lib.hid (fun j hj => absurd hj (by omega)), hx.out, b0.out⟩
  case round =>
    obtain ⟨k, hk, rfl, rfl, hall, hbox, hb⟩ := hrel
    obtain ⟨q0, q1, q2, q3, q4⟩ := hbox.cells
    have HX := Lib.hid hbox
    clear hbox
    have hr := runAt_le xs k
    have hr1 := runAt_le xs (k + 1)
    by_cases hlt : k < n
    · obtain ⟨ad, v, rfl, hab, hv, hc⟩ := (h.below hb).at_ hlt
      have HV := Lib.hid hv
      obtain ⟨v0, v1⟩ := allIn_at HD.out hv
      clear hv
      by_cases h3 : 0 < k
      · have d3 : decide (0 < k) = true := by simpa using h3
        obtain ⟨ad', u, e, _, hu, hc'⟩ := (h.below hb).at_ (show k - 1 < n by omega)
        obtain rfl : ad = ad' := by injection e
        clear e
        have HU := Lib.hid hu
        obtain ⟨u0, u1⟩ := allIn_at HD.out hu
        clear hu
        have s1 : IntKind.i64.wrap ((k : Int) - 1) = (k : Int) - 1 := IntWalk.i64_in _ (by omega)
        have s2 : 0 ≤ (k : Int) - 1 := by omega
        have s3 : ((k : Int) - 1).toNat = k - 1 := by omega
        have s4 : (k : Int) - 1 < (n : Int) := by omega
        have s5 : (1 : Int) ≤ (k : Int) := by omega
        have s6 : IntKind.i64.wrap (v - u) = v - u := IntWalk.i64_in _ (by omega)
        rcases hq : inB (v - u) (-m.S) m.S with _ | _
        · have HF := Lib.hid (begins_no3 HL.out hlt (by rw [step_is HV.out HU.out h3]; exact hq))
          have dq : decide (m.S < absI (v - u)) = true := by rw [abs_step, hq]; rfl
          have h4' : (v != u) = true := by
            have : ¬ v = u := fun e => by
              rw [inB_false] at hq; omega
            simp [this]
          have h5 : decide (m.M < 1) = false := by simp; omega
          clear hq
          go_wp2
          go_quiet (fail)
          go_wp2
          go_quiet ((go_at_call 138; exact quiet_add_left (l01Abs_any _ _ (by omega) (by omega))))
          clear s1 s2 s3 s4 s5 s6
          go_wp2
          go_ret
          exact ⟨ret_bool HF.out.symm, below_drewN (below_drewN hb _) _⟩
        · have dq : decide (m.S < absI (v - u)) = false := by rw [abs_step, hq]; rfl
          have HS := Lib.hid (show stepAt m.S xs k = true by rw [step_is HV.out HU.out h3]; exact hq)
          clear hq
          by_cases h4 : v = u
          · have HR := Lib.hid (run_on HV.out HU.out h4)
            have h4' : (v != u) = false := by simp [h4]
            clear h4
            rcases h5 : decide (m.M < (runAt xs k : Int) + 1) with _ | _
            · have HN := Lib.hid (both_next hall.out HS.out (by unfold runOk; rw [HR.out]; simp at h5 ⊢; omega))
              go_wp2
              go_quiet (fail)
              go_wp2
              go_quiet ((go_at_call 138; exact quiet_add_left (l01Abs_any _ _ (by omega) (by omega))))
              clear s1 s2 s3 s4 s5 s6
              go_wp2
              go_roundw
              case rel => exact ⟨k + 1, by omega, by go_num, by rw [HR.out]; go_num, HN, HX.out.drewN _, below_drewN hb _⟩
              case measure => simp [intOf]; omega
            · have HF := Lib.hid (begins_no4 (m := m) HL.out hlt (by unfold runOk; rw [HR.out]; simp at h5 ⊢; omega))
              go_wp2
              go_quiet (fail)
              go_wp2
              go_quiet ((go_at_call 138; exact quiet_add_left (l01Abs_any _ _ (by omega) (by omega))))
              clear s1 s2 s3 s4 s5 s6
              go_wp2
              go_ret
              exact ⟨ret_bool HF.out.symm, below_drewN (below_drewN hb _) _⟩
          · have HR := Lib.hid (run_new HV.out HU.out h3 h4)
            have h4' : (v != u) = true := by simp [h4]
            clear h4
            have h5 : decide (m.M < 1) = false := by simp; omega
            have HN := Lib.hid (both_next hall.out HS.out (by unfold runOk; rw [HR.out]; simp; omega))
            go_wp2
            go_quiet (fail)
            go_wp2
            go_quiet ((go_at_call 138; exact quiet_add_left (l01Abs_any _ _ (by omega) (by omega))))
            clear s1 s2 s3 s4 s5 s6
            go_wp2
            go_roundw
            case rel => exact ⟨k + 1, by omega, by go_num, by rw [HR.out]; go_num, HN, HX.out.drewN _, below_drewN hb _⟩
            case measure => simp [intOf]; omega
      · have d3 : decide (0 < k) = false := by simpa using h3
        have HR := Lib.hid (run_first (xs := xs) h3)
        have h5 : decide (m.M < (runAt xs k : Int) + 1) = false := by simp; omega
        have HN := Lib.hid (both_next hall.out (step_first' (S := m.S) (xs := xs) h3) (by unfold runOk; rw [HR.out]; simp; omega))
        go_wp2
        go_quiet (fail)
        go_wp2
        go_quiet (fail)
        go_wp2
        go_roundw
        case rel => exact ⟨k + 1, by omega, by go_num, by rw [HR.out]; go_num, HN, HX.out.drewN _, below_drewN hb _⟩
        case measure => simp [intOf]; omega
    · have HF := Lib.hid (begins_yes HL.out hlt hall.out)
      go_wp2
      go_ret
      exact ⟨ret_bool HF.out.symm, hb⟩

end Go.Proofs.Ytgbicepneonkfaa

namespace Go.Proofs.Ytgbicepneonkfaa
open Go.RowKit

/-- a row of its own that reads as a list -/
def OwnRow (w : World) (n : Nat) (xs : List Int) (e : Ending) (w' : World) : Prop := ∃ v, e = .returned v ∧ w'.ownsRow w.heap.size 2 1 v n (intsV xs) ∧ Below w.heap.size w w'

set_option maxHeartbeats 1000000 in
theorem l01Own_nil (w : World) : Calls Try.prog 134 #[.slice none 0 0] w (OwnRow w 0 []) := by
  obtain ⟨i0, hi, hz0, hz1, hz2⟩ := info_parts Try.info2'
  have HI := Lib.hid (And.intro hi (And.intro hz0 (And.intro hz1 hz2)))
  clear hi hz0 hz1 hz2
  have HO := Lib.hid (rowNil (w := w) (t := 2) (s := 1) (Nat.le_refl w.heap.size))
  go_enter Try.func134, Try.ntmps134
  go_wp2_with (at_builtin; refine wpList_append_own_none _ rfl _ _ 39 rfl w.heap.size 2 i0 1 Try.underlying39 HI.out.1 _ 0 _ rfl HO.out rfl ?_)
  go_ret
  exact ⟨_, rfl, HO.out, (Below.refl _ _).alloc (Nat.le_refl _) _⟩

set_option maxHeartbeats 1000000 in
theorem l01Own_some (ad : Addr) (n c : Nat) (xs : List Int) (w : World) (h : Ints w w.heap.size (some ad) n xs) (hn : n ≤ 1048576) :
    Calls Try.prog 134 #[.slice (some ad) n c] w (OwnRow w n xs) := by
  obtain ⟨i0, hi, hz0, hz1, hz2⟩ := info_parts Try.info2'
  have HI := Lib.hid (And.intro hi (And.intro hz0 (And.intro hz1 hz2)))
  clear hi hz0 hz1 hz2
  have HL := Lib.hid h.len
  have hb0 := (Below.refl w.heap.size w).alloc (Nat.le_refl _) (.cells #[] 2)
  have HN : Hid (∀ j u, (intsV xs)[j]? = some u → (w.alloc (.cells #[] 2)).cell? (ad.add j) = some u) := by
    rcases Nat.eq_zero_or_pos n with h0 | h0
    · refine Lib.hid (fun j u hu => ?_)
      have : xs = [] := List.eq_nil_of_length_eq_zero (by rw [h.len, h0])
      subst this
      simp [intsV] at hu
    · exact Lib.hid (ints_news (h.below hb0) h0)
  have HB := Lib.hid hb0
  clear hb0
  have HO := Lib.hid (rowNil (w := w) (t := 2) (s := 1) (Nat.le_refl w.heap.size))
  go_enter Try.func134, Try.ntmps134
  go_wp2_with (at_builtin; refine wpList_append_own_at _ rfl _ _ 39 rfl w.heap.size 2 i0 _ 1 8 Try.underlying39 HI.out.1 HI.out.2.1 HI.out.2.2.1 HI.out.2.2.2 rfl (by omega) _ 0 _ rfl HO.out ad n c (intsV xs) rfl (by rw [intsV_len, HL.out]; omega) HN.out (intsV_one _) (by unfold maxLen; omega) (by omega) (by simp) ?_; intro v5 w5 hown1 hgrow _ _)
  rw [show 0 + n = n by omega, List.nil_append] at hown1
  have R5 := Lib.hid hown1
  have B5 := Lib.hid (HB.out.grown hgrow (by simp) (fun q e => by have := rowBase HO.out q e; omega))
  clear hown1 hgrow
  go_wp2
  go_ret
  exact ⟨v5, rfl, R5.out, B5.out⟩

theorem l01Own_any (A : Option Addr) (n c : Nat) (xs : List Int) (w : World) (h : Ints w w.heap.size A n xs) (hn : n ≤ 1048576) (hA : A = none → n = 0 ∧ c = 0) :
    Calls Try.prog 134 #[.slice A n c] w (OwnRow w n xs) := by
  rcases A with _ | ad
  · obtain ⟨rfl, rfl⟩ := hA rfl
    have : xs = [] := List.eq_nil_of_length_eq_zero h.len
    subst this
    exact l01Own_nil w
  · exact l01Own_some ad n c xs w h hn

end Go.Proofs.Ytgbicepneonkfaa

namespace Go.Proofs.Ytgbicepneonkfaa
open Go.RowKit

/-- what l02First answers: res are the keys that it looks for the first of -/
def FirstOk (w : World) (lo : Nat) (res : List (List Int)) (e : Ending) (w' : World) : Prop :=
  ∃ A n c ok ys, e = .returned (.tuple #[.slice A n c, .bool ok]) ∧ Own w' lo w'.heap.size A n ys ∧ n ≤ 1048576 ∧ n ≤ c ∧ c ≤ 9223372036854775807 ∧ Below w.heap.size w w' ∧ ((ok = true ∧ res.head? = some ys) ∨ (ok = false ∧ res = []))
def FirstAll (m : Mk) (k : Nat) : Prop :=
  ∀ (A : Option Addr) (n c : Nat) (xs : List Int) (lo : Nat) (w : World), ((n + k : Nat) : Int) = m.C → Own w lo w.heap.size A n xs → lo ≤ w.heap.size → n ≤ c → c ≤ 9223372036854775807 → (A = none → n = 0 ∧ c = 0) → allIn 0 (m.D - 1) xs = true →
    Calls Try.prog 120 #[.agg #[.int .i64 m.C, .int .i64 m.D, .int .i64 m.S, .int .i64 m.M, .int .i64 m.L], .slice A n c] w (FirstOk w lo (keysFrom m k xs))

theorem Ints.alloc {w : World} {B n : Nat} {A : Option Addr} {xs : List Int} (h : Ints w B A n xs) (hB : B ≤ w.heap.size) (o : Obj) : Ints (w.alloc o) (w.alloc o).heap.size A n xs :=
  (h.below ((Below.refl B w).alloc hB o)).more (by simp; omega)
/-- a block made before a call is still there behind it -/
theorem news_behind {w w2 : World} {d : Int} {t : TypeId} (hb : Below (w.alloc (.cells #[.int .i64 d] t)).drew.heap.size (w.alloc (.cells #[.int .i64 d] t)).drew w2) : ∀ (j : Nat) (u : Value), [Value.int .i64 d][j]? = some u → w2.cell? ((⟨w.heap.size, 0, none⟩ : Addr).add j) = some u := by
  intro j u hu
  have h1 := World.news_of_block (cs := #[.int .i64 d]) (t := t) (fr := (0, 0)) (heap_alloc_new w _) j u hu
  refine (hb.cell ?_).trans h1
  rw [block_of_add]
  show w.heap.size < (w.alloc _).heap.size
  simp

set_option maxRecDepth 100000 in
set_option maxHeartbeats 8000000 in
theorem l02First_step (m : Mk) (hm : m.ok = true) (k : Nat) (IH : ∀ j, k = j + 1 → FirstAll m j) : FirstAll m k := by
  intro A n c xs lo w hnk ho hlo hc hcm hA hd
  obtain ⟨m1, m2, m3, m4, m5, m6, m7, m8, m9, m10, m11⟩ := Mk.ok_true hm
  have HM := Lib.hid hm
  have HNK := Lib.hid hnk
  have hn6 : n ≤ 6 := by omega
  have HD := Lib.hid hd
  have HI := Lib.hid IH
  have HA := Lib.hid hA
  have HL := Lib.hid ho.len
  clear hm hnk hd IH hA
  have b0 := (Below.refl w.heap.size w).alloc (Nat.le_refl _) (.cells #[.int .i64 m.C, .int .i64 m.D, .int .i64 m.S, .int .i64 m.M, .int .i64 m.L] 25)
  have hx := Boxed.new w 25 m
  have h := ho.ints
  have HO := Lib.hid ho
  clear ho
  generalize hT : keysFrom m k xs = T
  have HT := Lib.hid hT
  clear hT
  obtain ⟨i0, hi, hz0, hz1, hz2⟩ := info_parts Try.info2'
  have HF := Lib.hid (And.intro hi (And.intro hz0 (And.intro hz1 hz2)))
  clear hi hz0 hz1 hz2
  go_enter Try.func120, Try.ntmps120
  go_wp2_with fail
  refine (l02Begins_any m _ _ _ xs _ (h.on b0) (by omega) HM.out HD.out).mono ?_
  rcases hb : beginsB m xs with _ | _
  · rintro e w1 ⟨rfl, b1⟩
    have c1 := below_trans' b0 b1
    have HE : Hid (T = []) := Lib.hid (by rw [← HT.out]; exact keys_stop hb)
    clear b0 b1 hb hx
    go_wp2
    go_ret2
    exact ⟨none, 0, 0, false, [], rfl, Own.nil _ (Nat.le_refl _), by omega, by omega, by omega, c1, .inr ⟨rfl, HE.out⟩⟩
  rintro e w1 ⟨rfl, b1⟩
  have HB := Lib.hid hb
  have c1 := below_trans' b0 b1
  have x1 := hx.on b1
  clear b0 b1 hb hx
  obtain ⟨q0, q1, q2, q3, q4⟩ := x1.cells
  rcases k with _ | j
  · have htest : ((n : Int) == m.C) = true := by have := HNK.out; simp; omega
    have O1 := Lib.hid ((HO.out.below c1).more (Nat.le_refl _) c1.size (Nat.le_refl _))
    have hi1 := h.on c1
    by_cases hL : m.L ≤ (kinds xs : Int)
    · have dL : decide (m.L ≤ (kinds xs : Int)) = true := by simpa using hL
      have HE : Hid (T = [xs]) := Lib.hid (by rw [← HT.out]; exact keys_zero_yes HB.out hL)
      clear hL
      go_wp2
      go_quiet ((go_at_call 136; exact quiet_on (l02Kinds_any _ _ _ xs _ (ints_drewN hi1 _) (by omega) hc hcm)))
      go_wp2
      go_ret2
      exact ⟨A, n, c, true, xs, rfl, O1.out.dn _, by omega, hc, hcm, below_drewN c1 _, .inl ⟨rfl, by rw [HE.out]; rfl⟩⟩
    · have dL : decide (m.L ≤ (kinds xs : Int)) = false := by simpa using hL
      have HE : Hid (T = []) := Lib.hid (by rw [← HT.out]; exact keys_zero_no HB.out hL)
      clear hL
      go_wp2
      go_quiet ((go_at_call 136; exact quiet_on (l02Kinds_any _ _ _ xs _ (ints_drewN hi1 _) (by omega) hc hcm)))
      go_wp2
      go_ret2
      exact ⟨A, n, c, false, xs, rfl, O1.out.dn _, by omega, hc, hcm, below_drewN c1 _, .inr ⟨rfl, HE.out⟩⟩
  · have htest : ((n : Int) == m.C) = false := by have := HNK.out; simp; omega
    have HS := Lib.hid (keys_succ (k := j) HB.out)
    go_wp2
    clear q0 q1 q2 q3 q4
    go_loopw [6] (fun x wr => ∃ d : Nat, x = .int .i64 d ∧ d ≤ 8 ∧ Hid (T.head? = (tails m j xs d).head?) ∧ Boxed wr w.heap.size 25 m ∧ Below w.heap.size w wr) (fun x _ => 9 - (intOf x).toNat)
    case atStart => exact ⟨0, rfl, by omega, Lib.hid (by rw [← HT.out, HS.out]), x1, c1⟩
    case round =>
      obtain ⟨d, rfl, hd8, hall, hbox, hbl⟩ := hrel
      clear x1 c1
      obtain ⟨q0, q1, q2, q3, q4⟩ := hbox.cells
      have hsz := hbl.size
      by_cases hlt : (d : Int) < m.D
      · have hI := h.below hbl
        have HX := Lib.hid hbox
        have HBL := Lib.hid hbl
        have hlw := hbox.lt
        clear hbox hbl
        have e0 := World.new_ne wr ⟨w.heap.size, 0, none⟩ q0
        have e1 := World.new_ne wr ⟨w.heap.size, 1, none⟩ q1
        have e2 := World.new_ne wr ⟨w.heap.size, 2, none⟩ q2
        have e3 := World.new_ne wr ⟨w.heap.size, 3, none⟩ q3
        have e4 := World.new_ne wr ⟨w.heap.size, 4, none⟩ q4
        go_wp2
        go_region_held3 (fun w' => w'.cell? ⟨w.heap.size, 0, none⟩ = some (.int .i64 m.C) ∧ w'.cell? ⟨w.heap.size, 1, none⟩ = some (.int .i64 m.D) ∧ w'.cell? ⟨w.heap.size, 2, none⟩ = some (.int .i64 m.S) ∧ w'.cell? ⟨w.heap.size, 3, none⟩ = some (.int .i64 m.M) ∧ w'.cell? ⟨w.heap.size, 4, none⟩ = some (.int .i64 m.L))
          (first
            | go_keep
            | exact ⟨(b2.cell (p := ⟨w.heap.size, 0, none⟩) hlw).trans q0, (b2.cell (p := ⟨w.heap.size, 1, none⟩) hlw).trans q1, (b2.cell (p := ⟨w.heap.size, 2, none⟩) hlw).trans q2, (b2.cell (p := ⟨w.heap.size, 3, none⟩) hlw).trans q3, (b2.cell (p := ⟨w.heap.size, 4, none⟩) hlw).trans q4⟩
            | exact XZ.out.cells
            | exact X5.out.cells
            | exact X6.out.cells)
          (first
            | (go_at_call 134; refine (l01Own_any A n c xs _ (ints_drewN (hI.more (Nat.le_of_lt hlw)) 1) (by omega) HA.out).mono ?_; rintro e w2 ⟨v2, rfl, r2, b2⟩; have X2 := Lib.hid ((HX.out.drewN 1).on b2))
            | (refine step_append_lies _ (by rfl) _ _ _ (by rfl) wr.heap.size 2 i0 _ 1 8 Try.underlying39 HF.out.1 HF.out.2.1 HF.out.2.2.1 HF.out.2.2.2 rfl (by omega) v2 n (intsV xs) (by rfl) (r2.alloc _) ⟨w2.heap.size, 0, none⟩ 1 1 [.int .i64 (d : Int)] (by rfl) (by rfl) (World.news_of_block (cs := #[.int .i64 (d : Int)]) (t := 2) (fr := (0, 0)) (heap_alloc_new w2 _)) (by simp [Value.oneCell']) (by omega) (by unfold maxLen; omega) (by omega) (by have := b2.size; simp at this ⊢; omega) (w2.heap.size + 1) (by simp) ?_; intro gg cap w5 hown1 hgrow hat hlt3; have X5 := Lib.hid ((X2.out.alloc (.cells #[.int .i64 (d : Int)] 2)).grown hgrow (by intro e; have := rowBase r2 _ e.symm; simp at this; omega)); have B5 := Lib.hid ((((below_drewN HBL.out 1).trans (b2.mono HBL.out.size)).alloc (by have := b2.size; simp at this; omega) (.cells #[.int .i64 (d : Int)] 2)).grown hgrow (by have := b2.size; simp at this ⊢; omega) (fun q e => by have := rowBase r2 q e; simp at this; omega)))
            | (go_at_call 120; have hrow5 := hown1; rw [intsV_snoc] at hrow5; obtain ⟨ho5, hc5, hm5⟩ := rowIntsAt hrow5 (by rw [List.length_append, HL.out]; rfl); refine (HI.out j rfl (some ⟨gg, 0, none⟩) (n + 1) cap (xs ++ [(d : Int)]) wr.heap.size w5 (by have := HNK.out; omega) ho5 (by have := hgrow.size; have := b2.size; simp at *; omega) hc5 hm5 (by simp) (depth_snoc HD.out hlt)).mono ?_; rintro e w6 ⟨A6, n6, c6, ok, ys, rfl, o6, hn6', hc6, hm6, b6, t6⟩; have X6 := Lib.hid (X5.out.on b6))
            | (go_at_call 134; refine (l01Own_any A n c xs _ (ints_drewN (hI.alloc (Nat.le_of_lt hlw) (.cells #[.int .i64 (d : Int)] 2)) 1) (by omega) HA.out).mono ?_; rintro e wz ⟨vz, rfl, rz, bz⟩; have XZ := Lib.hid (((HX.out.alloc (.cells #[.int .i64 (d : Int)] 2)).drewN 1).on bz))
            | (refine step_append_lies _ (by rfl) _ _ _ (by rfl) wr.heap.size 2 i0 _ 1 8 Try.underlying39 HF.out.1 HF.out.2.1 HF.out.2.2.1 HF.out.2.2.2 rfl (by omega) vz n (intsV xs) (by rfl) (rowMore rz (by simp)) ⟨wr.heap.size, 0, none⟩ 1 1 [.int .i64 (d : Int)] (by rfl) (by rfl) (news_behind bz) (by simp [Value.oneCell']) (by omega) (by unfold maxLen; omega) (by omega) (by have := bz.size; simp at this ⊢; omega) wz.heap.size rfl ?_; intro gg cap w5 hown1 hgrow hat hlt3; have X5 := Lib.hid (XZ.out.grown hgrow (by intro e; have := rowBase rz _ e.symm; simp at this; omega)); have B5 := Lib.hid (((below_drewN (HBL.out.alloc HBL.out.size (.cells #[.int .i64 (d : Int)] 2)) 1).trans (bz.mono (by simp; omega))).grown hgrow (by have := bz.size; simp at this ⊢; omega) (fun q e => by have := rowBase rz q e; simp at this; omega)))
            | (go_at_call 120; have hrow5 := hown1; rw [intsV_snoc] at hrow5; obtain ⟨ho5, hc5, hm5⟩ := rowIntsAt hrow5 (by rw [List.length_append, HL.out]; rfl); refine (HI.out j rfl (some ⟨gg, 0, none⟩) (n + 1) cap (xs ++ [(d : Int)]) wr.heap.size w5 (by have := HNK.out; omega) ho5 (by have := hgrow.size; have := bz.size; simp at *; omega) hc5 hm5 (by simp) (depth_snoc HD.out hlt)).mono ?_; rintro e w6 ⟨A6, n6, c6, ok, ys, rfl, o6, hn6', hc6, hm6, b6, t6⟩; have X6 := Lib.hid (X5.out.on b6)))
        all_goals
          have B6 := Lib.hid (B5.out.trans (b6.mono (by have := B5.out.size; exact this)))
          have O6 := Lib.hid (o6.more (show lo ≤ wr.heap.size by omega) (Nat.le_refl _) (Nat.le_refl _))
          have HTS := Lib.hid (tails_step (m := m) (k := j) (xs := xs) (d := d) (by omega))
          clear q0 q1 q2 q3 q4 e0 e1 e2 e3 e4 hown1 hgrow hat hlt3 b6 o6 X5 B5
          rcases t6 with ⟨rfl, t6⟩ | ⟨rfl, t6⟩
          · have HG : Hid (T.head? = some ys) := Lib.hid (by rw [hall.out, HTS.out, List.head?_append, t6]; rfl)
            clear t6
            go_wp2
            go_ret2
            exact ⟨A6, n6, c6, true, ys, rfl, O6.out, hn6', hc6, hm6, B6.out, .inl ⟨rfl, HG.out⟩⟩
          · have HG := Lib.hid t6
            clear t6
            go_wp2
            go_roundw
            case rel => exact ⟨d + 1, by go_num, by omega, Lib.hid (by rw [hall.out, HTS.out, HG.out]; rfl), X6.out, B6.out⟩
            case measure => simp [intOf]; omega
      · have HE : Hid (T = []) := Lib.hid (by
          have h1 := hall.out
          rw [tails_end (m := m) (k := j) (xs := xs) (d := d) (by omega)] at h1
          exact List.head?_eq_none_iff.1 h1)
        clear hall
        go_wp2
        go_ret2
        exact ⟨none, 0, 0, false, [], rfl, Own.nil _ (Nat.le_refl _), by omega, by omega, by omega, hbl, .inr ⟨rfl, HE.out⟩⟩

theorem l02First_any (m : Mk) (hm : m.ok = true) : ∀ k, FirstAll m k
  | 0 => l02First_step m hm 0 (fun j h => by omega)
  | k + 1 => l02First_step m hm (k + 1) (fun j h => by
    have e : k = j := by omega
    subst e
    exact l02First_any m hm k)

end Go.Proofs.Ytgbicepneonkfaa

namespace Go.Proofs.Ytgbicepneonkfaa
open Go.RowKit

theorem depth_take {m : Mk} {xs : List Int} (h : allIn 0 (m.D - 1) xs = true) (q : Nat) : allIn 0 (m.D - 1) (xs.take q) = true := by
  unfold allIn at *
  rw [List.all_eq_true] at *
  exact fun v hv => h v (List.mem_of_mem_take hv)

set_option maxRecDepth 100000 in
set_option maxHeartbeats 8000000 in
theorem l02Next_any (m : Mk) (hm : m.ok = true) (A : Option Addr) (n c : Nat) (xs : List Int) (w : World) (h : Ints w w.heap.size A n xs) (hnC : (n : Int) = m.C) (hc : n ≤ c) (hd : allIn 0 (m.D - 1) xs = true) :
    Calls Try.prog 119 #[.agg #[.int .i64 m.C, .int .i64 m.D, .int .i64 m.S, .int .i64 m.M, .int .i64 m.L], .slice A n c] w (FirstOk w w.heap.size (nextAll m xs)) := by
  obtain ⟨m1, m2, m3, m4, m5, m6, m7, m8, m9, m10, m11⟩ := Mk.ok_true hm
  have HM := Lib.hid hm
  have HN := Lib.hid hnC
  have hn6 : n ≤ 6 := by omega
  have hp : 0 < n := by omega
  have HD := Lib.hid hd
  have HL := Lib.hid h.len
  clear hm hnC hd
  obtain ⟨ad, _, rfl, hab, _, _⟩ := h.at_ hp
  have b0 := (Below.refl w.heap.size w).alloc (Nat.le_refl _) (.cells #[.int .i64 m.C, .int .i64 m.D, .int .i64 m.S, .int .i64 m.M, .int .i64 m.L] 25)
  have hx := Boxed.new w 25 m
  generalize hT : nextAll m xs = T
  have HT := Lib.hid (show T = down m xs 0 n by rw [← hT]; unfold nextAll; rw [HL.out])
  clear hT
  obtain ⟨i0, hi, hz0, hz1, hz2⟩ := info_parts Try.info2'
  have HF := Lib.hid (And.intro hi (And.intro hz0 (And.intro hz1 hz2)))
  clear hi hz0 hz1 hz2
  go_enter Try.func119, Try.ntmps119
  go_wp2
  go_loopw [6] (fun x wr => ∃ (r : Nat) (y : Int), x = .int .i64 y ∧ r ≤ n ∧ y + 1 = r ∧ Hid (T.head? = (down m xs 0 r).head?) ∧ Boxed wr w.heap.size 25 m ∧ Below w.heap.size w wr) (fun x _ => (intOf x + 1).toNat)
  case atStart => exact ⟨n, _, rfl, Nat.le_refl _, by omega, Lib.hid (by rw [HT.out]), hx, b0⟩
  case round =>
    obtain ⟨r, y, rfl, hr, hy, hall, hbox, hbl⟩ := hrel
    rcases r with _ | q
    · have HE : Hid (T = []) := Lib.hid (List.head?_eq_none_iff.1 hall.out)
      have hneg : y < 0 := by omega
      clear b0 hx hall
      go_wp2
      go_ret2
      exact ⟨none, 0, 0, false, [], rfl, Own.nil _ (Nat.le_refl _), by omega, by omega, by omega, hbl, .inr ⟨rfl, HE.out⟩⟩
    · obtain rfl : y = (q : Int) := by omega
      have hqn : q < n := by omega
      obtain ⟨_, v, e0, _, hv, hcell⟩ := (h.below hbl).at_ hqn
      obtain rfl := (by injection e0 : ad = _)
      clear e0
      obtain ⟨v0, v1⟩ := allIn_at HD.out hv
      obtain ⟨u, rfl⟩ := Int.eq_ofNat_of_zero_le v0
      have HA : Hid (down m xs 0 (q + 1) = tails m (n - 1 - q) (xs.take q) (u + 1) ++ down m xs 0 q) := Lib.hid (by
        show afterAt m xs (0 + q) ++ _ = _
        unfold afterAt
        rw [Nat.zero_add, HL.out, getD_at hv]; rfl)
      have HP := Lib.hid (show ((xs.take q).length = q) by rw [List.length_take, HL.out]; omega)
      obtain ⟨wo, rfl⟩ : ∃ wo : World, wo = wr := ⟨_, rfl⟩
      have X0 := Lib.hid hbox
      have B0 := Lib.hid hbl
      clear hv b0 hx hbox hbl
      go_wp2
      go_loopw [7] (fun x wr => ∃ d : Nat, x = .int .i64 d ∧ d ≤ 8 ∧ Hid (T.head? = (tails m (n - 1 - q) (xs.take q) d ++ down m xs 0 q).head?) ∧ Boxed wr w.heap.size 25 m ∧ Below w.heap.size w wr) (fun x _ => 9 - (intOf x).toNat)
      case atStart => exact ⟨u + 1, by go_num, by omega, Lib.hid (by rw [hall.out, HA.out]), X0.out, B0.out⟩
      case round =>
        obtain ⟨d, rfl, hd8, hall2, hbox, hbl⟩ := hrel
        clear hcell X0 B0
        obtain ⟨q0, q1, q2, q3, q4⟩ := hbox.cells
        have hsz := hbl.size
        by_cases hlt : (d : Int) < m.D
        · have hI := (h.below hbl).front (Nat.le_of_lt hqn)
          have HX := Lib.hid hbox
          have HBL := Lib.hid hbl
          have hlw := hbox.lt
          clear hbox hbl
          have e0 := World.new_ne wr ⟨w.heap.size, 0, none⟩ q0
          have e1 := World.new_ne wr ⟨w.heap.size, 1, none⟩ q1
          have e2 := World.new_ne wr ⟨w.heap.size, 2, none⟩ q2
          have e3 := World.new_ne wr ⟨w.heap.size, 3, none⟩ q3
          have e4 := World.new_ne wr ⟨w.heap.size, 4, none⟩ q4
          have j0 : (0 : Int) ≤ (q : Int) := by omega
          have j1 : (q : Int) ≤ (c : Int) := by omega
          have HFI := Lib.hid (l02First_any m HM.out (n - 1 - q))
          go_wp2
          go_region_held3 (fun w' => w'.cell? ⟨w.heap.size, 0, none⟩ = some (.int .i64 m.C) ∧ w'.cell? ⟨w.heap.size, 1, none⟩ = some (.int .i64 m.D) ∧ w'.cell? ⟨w.heap.size, 2, none⟩ = some (.int .i64 m.S) ∧ w'.cell? ⟨w.heap.size, 3, none⟩ = some (.int .i64 m.M) ∧ w'.cell? ⟨w.heap.size, 4, none⟩ = some (.int .i64 m.L))
            (first
              | go_keep
              | exact ⟨(b2.cell (p := ⟨w.heap.size, 0, none⟩) hlw).trans q0, (b2.cell (p := ⟨w.heap.size, 1, none⟩) hlw).trans q1, (b2.cell (p := ⟨w.heap.size, 2, none⟩) hlw).trans q2, (b2.cell (p := ⟨w.heap.size, 3, none⟩) hlw).trans q3, (b2.cell (p := ⟨w.heap.size, 4, none⟩) hlw).trans q4⟩
              | exact XZ.out.cells
              | exact X5.out.cells
              | exact X6.out.cells)
            (first
              | (go_at_call 134; refine (l01Own_some ad q c (xs.take q) _ (ints_drewN (hI.more (Nat.le_of_lt hlw)) 1) (by omega)).mono ?_; rintro e w2 ⟨v2, rfl, r2, b2⟩; have X2 := Lib.hid ((HX.out.drewN 1).on b2))
              | (refine step_append_lies _ (by rfl) _ _ _ (by rfl) wr.heap.size 2 i0 _ 1 8 Try.underlying39 HF.out.1 HF.out.2.1 HF.out.2.2.1 HF.out.2.2.2 rfl (by omega) v2 q (intsV (xs.take q)) (by rfl) (r2.alloc _) ⟨w2.heap.size, 0, none⟩ 1 1 [.int .i64 (d : Int)] (by rfl) (by rfl) (World.news_of_block (cs := #[.int .i64 (d : Int)]) (t := 2) (fr := (0, 0)) (heap_alloc_new w2 _)) (by simp [Value.oneCell']) (by omega) (by unfold maxLen; omega) (by omega) (by have := b2.size; simp at this ⊢; omega) (w2.heap.size + 1) (by simp) ?_; intro gg cap w5 hown1 hgrow hat hlt3; have X5 := Lib.hid ((X2.out.alloc (.cells #[.int .i64 (d : Int)] 2)).grown hgrow (by intro e; have := rowBase r2 _ e.symm; simp at this; omega)); have B5 := Lib.hid ((((below_drewN HBL.out 1).trans (b2.mono HBL.out.size)).alloc (by have := b2.size; simp at this; omega) (.cells #[.int .i64 (d : Int)] 2)).grown hgrow (by have := b2.size; simp at this ⊢; omega) (fun q e => by have := rowBase r2 q e; simp at this; omega)))
              | (go_at_call 120; have hrow5 := hown1; rw [intsV_snoc] at hrow5; obtain ⟨ho5, hc5, hm5⟩ := rowIntsAt hrow5 (by rw [List.length_append, HP.out]; rfl); refine (HFI.out (some ⟨gg, 0, none⟩) (q + 1) cap (xs.take q ++ [(d : Int)]) wr.heap.size w5 (by have := HN.out; omega) ho5 (by have := hgrow.size; have := b2.size; simp at *; omega) hc5 hm5 (by simp) (depth_snoc (depth_take HD.out q) hlt)).mono ?_; rintro e w6 ⟨A6, n6, c6, ok, ys, rfl, o6, hn6', hc6, hm6, b6, t6⟩; have X6 := Lib.hid (X5.out.on b6))
              | (go_at_call 134; refine (l01Own_some ad q c (xs.take q) _ (ints_drewN (hI.alloc (Nat.le_of_lt hlw) (.cells #[.int .i64 (d : Int)] 2)) 1) (by omega)).mono ?_; rintro e wz ⟨vz, rfl, rz, bz⟩; have XZ := Lib.hid (((HX.out.alloc (.cells #[.int .i64 (d : Int)] 2)).drewN 1).on bz))
              | (refine step_append_lies _ (by rfl) _ _ _ (by rfl) wr.heap.size 2 i0 _ 1 8 Try.underlying39 HF.out.1 HF.out.2.1 HF.out.2.2.1 HF.out.2.2.2 rfl (by omega) vz q (intsV (xs.take q)) (by rfl) (rowMore rz (by simp)) ⟨wr.heap.size, 0, none⟩ 1 1 [.int .i64 (d : Int)] (by rfl) (by rfl) (news_behind bz) (by simp [Value.oneCell']) (by omega) (by unfold maxLen; omega) (by omega) (by have := bz.size; simp at this ⊢; omega) wz.heap.size rfl ?_; intro gg cap w5 hown1 hgrow hat hlt3; have X5 := Lib.hid (XZ.out.grown hgrow (by intro e; have := rowBase rz _ e.symm; simp at this; omega)); have B5 := Lib.hid (((below_drewN (HBL.out.alloc HBL.out.size (.cells #[.int .i64 (d : Int)] 2)) 1).trans (bz.mono (by simp; omega))).grown hgrow (by have := bz.size; simp at this ⊢; omega) (fun q e => by have := rowBase rz q e; simp at this; omega)))
              | (go_at_call 120; have hrow5 := hown1; rw [intsV_snoc] at hrow5; obtain ⟨ho5, hc5, hm5⟩ := rowIntsAt hrow5 (by rw [List.length_append, HP.out]; rfl); refine (HFI.out (some ⟨gg, 0, none⟩) (q + 1) cap (xs.take q ++ [(d : Int)]) wr.heap.size w5 (by have := HN.out; omega) ho5 (by have := hgrow.size; have := bz.size; simp at *; omega) hc5 hm5 (by simp) (depth_snoc (depth_take HD.out q) hlt)).mono ?_; rintro e w6 ⟨A6, n6, c6, ok, ys, rfl, o6, hn6', hc6, hm6, b6, t6⟩; have X6 := Lib.hid (X5.out.on b6)))
          all_goals
            have B6 := Lib.hid (B5.out.trans (b6.mono (by have := B5.out.size; exact this)))
            have O6 := Lib.hid (o6.more (show w.heap.size ≤ wr.heap.size by omega) (Nat.le_refl _) (Nat.le_refl _))
            have HTS := Lib.hid (tails_step (m := m) (k := n - 1 - q) (xs := xs.take q) (d := d) (by omega))
            clear q0 q1 q2 q3 q4 e0 e1 e2 e3 e4 hown1 hgrow hat hlt3 b6 o6 X5 B5 j0 j1
            rcases t6 with ⟨rfl, t6⟩ | ⟨rfl, t6⟩
            · have HG : Hid (T.head? = some ys) := Lib.hid (by rw [hall2.out, HTS.out, List.append_assoc, List.head?_append, t6]; rfl)
              clear t6
              go_wp2
              go_ret2
              exact ⟨A6, n6, c6, true, ys, rfl, O6.out, hn6', hc6, hm6, B6.out, .inl ⟨rfl, HG.out⟩⟩
            · have HG := Lib.hid t6
              clear t6
              go_wp2
              go_roundw
              case rel => exact ⟨d + 1, by go_num, by omega, Lib.hid (by rw [hall2.out, HTS.out, HG.out]; rfl), X6.out, B6.out⟩
              case measure => simp [intOf]; omega
        · have HE : Hid (T.head? = (down m xs 0 q).head?) := Lib.hid (by
            have h1 := hall2.out
            rwa [tails_end (m := m) (k := n - 1 - q) (xs := xs.take q) (d := d) (by omega), List.nil_append] at h1)
          have HX := Lib.hid hbox
          clear hall2 hbox
          go_wp2
          go_roundw
          case rel => exact ⟨q, _, rfl, by omega, by omega, HE, HX.out, hbl⟩
          case measure => simp [intOf] <;> omega

end Go.Proofs.Ytgbicepneonkfaa

namespace Go.Proofs.Ytgbicepneonkfaa
open Go.RowKit

end Go.Proofs.Ytgbicepneonkfaa

namespace Go.Proofs.Ytgbicepneonkfaa
open Go.RowKit

/-- what a call answers that gives a list of lists -/
def GivesPile (w : World) (p : Nat) (yss : List (List Int)) (e : Ending) (w' : World) : Prop :=
  ∃ V n c gs, e = .returned (.slice V n c) ∧ Pile w' w.heap.size (.slice V n c) n p gs yss ∧ n ≤ 300 ∧ Below w.heap.size w w'

end Go.Proofs.Ytgbicepneonkfaa

namespace Go.Proofs.Ytgbicepneonkfaa
open Go.RowKit

theorem quiet_add_on {P : Program} {f : FuncId} {args : Array Value} {w : World} {a n : Nat} {v : Value}
    (h : Calls P f args (w.drewN (a + n)) fun e w' => e = .returned v ∧ ∃ m, w' = (w.drewN (a + n)).drewN m) :
    Calls P f args (w.drewN (a + n)) fun e w'' => e = .returned v ∧ ∃ m, w'' = w.drewN (a + m) :=
  h.mono fun _ _ ⟨he, m, hm⟩ => ⟨he, n + m, by rw [hm, World.drewN_drewN, Nat.add_assoc]⟩
def addrOf : Value → Option Addr
  | .slice a _ _ => a
  | _ => none
theorem Pile.at_ {w : World} {lo n p c k : Nat} {V : Option Addr} {gs : List (Addr × Nat)} {yss : List (List Int)} (h : Pile w lo (.slice V n c) n p gs yss) (hk : k < n) :
    ∃ (ad : Addr) (a : Addr × Nat) (ys : List Int), V = some ad ∧ gs[k]? = some a ∧ yss[k]? = some ys ∧ w.cell? (ad.add k) = some (.slice (some a.1) p a.2) ∧ Self w a.1 p ys := by
  obtain ⟨g, cap, e, _, _⟩ := h.row.form (by omega)
  have hV : V = some ⟨g, 0, none⟩ := congrArg addrOf e
  subst hV
  have hg : gs[k]? = some (gs[k]'(by rw [h.glen]; exact hk)) := List.getElem?_eq_getElem _
  have hy : yss[k]? = some (yss[k]'(by rw [h.len]; exact hk)) := List.getElem?_eq_getElem _
  refine ⟨_, _, _, rfl, hg, hy, ?_, (h.inner k _ _ hg hy).1⟩
  exact h.row.cells (g := g) rfl k _ (by unfold slicesV; rw [List.getElem?_map, hg]; rfl)
theorem Pile.drewN {w : World} {lo n p : Nat} {v : Value} {gs : List (Addr × Nat)} {yss : List (List Int)} (h : Pile w lo v n p gs yss) (k : Nat) : Pile (w.drewN k) lo v n p gs yss :=
  h.on (below_drewN (Below.refl _ _) k)

theorem eqInts_quiet (A A' : Option Addr) (n c c' : Nat) (xs : List Int) (w : World) (h : Ints w w.heap.size A n xs) (h' : Ints w w.heap.size A' n xs) (hn : n ≤ 1048576) :
    Calls Try.prog 52 #[.slice A n c, .slice A' n c'] w fun e w' => e = .returned (.bool true) ∧ ∃ q, w' = w.drewN q := by
  go_enter Try.func52, Try.ntmps52
  go_wp2
  go_loopw [5] (fun i wr => ∃ k q : Nat, k ≤ n ∧ i = .int .i64 k ∧ wr = w.drewN q) (fun i _ => n - (intOf i).toNat)
  case atStart => exact ⟨0, 0, Nat.zero_le _, rfl, rfl⟩
  case round =>
    obtain ⟨k, q, hk, rfl, rfl⟩ := hrel
    by_cases hlt : k < n
    · obtain ⟨ad, v, rfl, hab, hv, hc⟩ := h.at_ hlt
      obtain ⟨ad', v', rfl, hab', hv', hc'⟩ := h'.at_ hlt
      obtain rfl : v = v' := by rw [hv] at hv'; injection hv'
      clear hv hv'
      go_wp2
      go_quiet (fail)
      go_wp2
      go_roundw
      case rel => exact ⟨k + 1, _, by omega, by go_num, rfl⟩
      case measure => simp [intOf]; omega
    · go_wp2
      go_ret
      exact ⟨rfl, q, rfl⟩

set_option maxRecDepth 100000 in
theorem eqLists_true (V V' : Option Addr) (n c c' p lo lo' : Nat) (gs gs' : List (Addr × Nat)) (yss : List (List Int)) (w : World) (h : Pile w lo (.slice V n c) n p gs yss) (h' : Pile w lo' (.slice V' n c') n p gs' yss) (hn : n ≤ 1048576) (hp : n = 0 ∨ p ≤ 6) :
    Calls Try.prog 132 #[.slice V n c, .slice V' n c'] w fun e w' => e = .returned (.bool true) ∧ ∃ q, w' = w.drewN q := by
  go_enter Try.func132, Try.ntmps132
  go_wp2
  go_loopw [5] (fun i wr => ∃ k q : Nat, k ≤ n ∧ i = .int .i64 k ∧ wr = w.drewN q) (fun i _ => n - (intOf i).toNat)
  case atStart => exact ⟨0, 0, Nat.zero_le _, rfl, rfl⟩
  case round =>
    obtain ⟨k, q, hk, rfl, rfl⟩ := hrel
    by_cases hlt : k < n
    · obtain ⟨ad, a, ys, rfl, _, hy, hc, hs⟩ := h.at_ hlt
      obtain ⟨ad', a', ys', rfl, _, hy', hc', hs'⟩ := h'.at_ hlt
      obtain rfl : ys = ys' := by rw [hy] at hy'; injection hy'
      have HS := Lib.hid hs
      have HS' := Lib.hid hs'
      have hp6 : p ≤ 6 := by omega
      have i0 : (0 : Int) ≤ (k : Int) := by omega
      have i1 : (k : Int) < (n : Int) := by omega
      clear hy hy' hs hs'
      go_wp2
      go_quiet ((go_at_call 52; exact quiet_add_on (eqInts_quiet _ _ _ _ _ ys _ (ints_drewN (Own.ints HS.out) _) (ints_drewN (Own.ints HS'.out) _) (by omega))))
      go_wp2
      go_roundw
      case rel => exact ⟨k + 1, _, by omega, by go_num, rfl⟩
      case measure => simp [intOf]; omega
    · go_wp2
      go_ret
      exact ⟨rfl, q, rfl⟩

/-- the count behind i marked lists of p numbers -/
def kAt (k : Int) (p i : Nat) : Int := k + ((i * p : Nat) : Int)
theorem kAt_step (k : Int) (p i : Nat) : kAt k p i + (p : Int) = kAt k p (i + 1) := by
  unfold kAt
  rw [Nat.succ_mul]
  omega
theorem kAt_range {k : Int} {p i : Nat} (k0 : 0 ≤ k) (k1 : k ≤ 1) (hi : i ≤ 300) (hp : p ≤ 6) : 0 ≤ kAt k p i ∧ kAt k p i ≤ 2000 := by
  have h : i * p ≤ 300 * 6 := Nat.mul_le_mul hi hp
  unfold kAt
  omega
/-- lists that are marked one after the other -/
def marksL (k : Int) (p n : Nat) : List (List Int) := (List.range n).map (fun j => marks (kAt k p j) p)
/-- .. the first i of them are -/
def Marked (k : Int) (p i : Nat) (zss : List (List Int)) : Prop := ∀ j, j < i → zss[j]? = some (marks (kAt k p j) p)
theorem Marked.all {k : Int} {p n : Nat} {zss : List (List Int)} (h : Marked k p n zss) (hl : zss.length = n) : zss = marksL k p n := by
  refine List.ext_getElem? fun j => ?_
  unfold marksL
  rw [List.getElem?_map]
  rcases Nat.lt_or_ge j n with hlt | hge
  · rw [h j hlt, List.getElem?_range hlt]; rfl
  · rw [List.getElem?_eq_none (by omega), List.getElem?_eq_none (by rw [List.length_range]; omega)]; rfl
theorem marksL_at {k : Int} {p n j : Nat} {ys : List Int} (h : (marksL k p n)[j]? = some ys) : ys = marks (kAt k p j) p := by
  unfold marksL at h
  rw [List.getElem?_map] at h
  rcases hr : (List.range n)[j]? with _ | u
  · rw [hr] at h; cases h
  · rw [hr] at h
    obtain ⟨hl, e⟩ := List.getElem?_eq_some_iff.1 hr
    rw [List.getElem_range] at e
    subst e
    simpa using h.symm
/-- one list of the pile has been written over -/
theorem Pile.write {w w' : World} {lo n p k : Nat} {v : Value} {gs : List (Addr × Nat)} {yss : List (List Int)} {a : Addr × Nat} {zs : List Int} {row : Option Nat} (h : Pile w lo v n p gs yss) (ha : gs[k]? = some a) (hs : Self w' a.1 p zs)
    (hg : w.grownBy w' row) (hr : ∀ g, row = some g → g = a.1.block) : Pile w' lo v n p gs (yss.set k zs) := by
  have hk : k < n := by rw [← h.glen]; exact (List.getElem?_eq_some_iff.1 ha).1
  have hy : yss[k]? = some (yss[k]'(by rw [h.len]; exact hk)) := List.getElem?_eq_getElem _
  obtain ⟨s1, s2, s3, s4⟩ := h.inner k a _ ha hy
  refine ⟨?_, by rw [List.length_set, h.len], ?_, h.apart⟩
  · refine ⟨h.row.1, ?_⟩
    rcases h.row.2 with h0 | ⟨g, cap, cur, e, h1, hh, rest⟩
    · exact .inl h0
    · refine .inr ⟨g, cap, cur, e, h1, (hg.block g (heapLt hh) ?_).trans hh, rest⟩
      intro e'
      have := hr g e'.symm
      rw [e] at s3
      exact s3 (by rw [← this]; rfl)
  · intro j b ys hj hys
    by_cases hjk : j = k
    · subst hjk
      rw [ha] at hj
      injection hj with hj
      subst hj
      rw [List.getElem?_set_self (by rw [h.len]; exact hk)] at hys
      injection hys with hys
      subst hys
      exact ⟨hs, s2, s3, s4⟩
    · rw [List.getElem?_set_ne (Ne.symm hjk)] at hys
      obtain ⟨t1, t2, t3, t4⟩ := h.inner j b ys hj hys
      refine ⟨t1.apart hg (fun e => ?_), t2, t3, t4⟩
      have e1 := hr _ e
      rcases Nat.lt_or_gt_of_ne hjk with hlt | hgt
      · exact h.apart j k b a hlt hj ha e1
      · exact h.apart k j a b hgt ha hj e1.symm

set_option maxRecDepth 100000 in
set_option maxHeartbeats 1000000 in
theorem markLists_any (V : Option Addr) (n c p lo : Nat) (gs : List (Addr × Nat)) (yss : List (List Int)) (k : Int) (w : World) (h : Pile w lo (.slice V n c) n p gs yss) (hlo : lo ≤ w.heap.size) (hn : n ≤ 300) (hp : n = 0 ∨ p ≤ 6) (k0 : 0 ≤ k) (k1 : k ≤ 1) :
    Calls Try.prog 109 #[.slice V n c, .int .i64 k] w fun e w' => e = .returned (.int .i64 (kAt k p n)) ∧ Pile w' lo (.slice V n c) n p gs (marksL k p n) ∧ Below lo w w' := by
  have HP := Lib.hid h
  clear h
  have HK : Hid (k = kAt k p 0) := Lib.hid (by unfold kAt; simp)
  go_enter Try.func109, Try.ntmps109
  go_wp2
  go_loopw [1, 5] (fun x y wr => ∃ (i : Nat) (zss : List (List Int)), i ≤ n ∧ y = .int .i64 i ∧ x = .int .i64 (kAt k p i) ∧ Pile wr lo (.slice V n c) n p gs zss ∧ Hid (Marked k p i zss) ∧ Below lo w wr) (fun _ y _ => n - (intOf y).toNat)
  case atStart => exact ⟨0, yss, Nat.zero_le _, rfl, by rw [← HK.out], HP.out, Lib.hid (fun j hj => absurd hj (by omega)), Below.refl _ _⟩
  case round =>
    obtain ⟨i, zss, hi, rfl, rfl, hpile, hmk, hb⟩ := hrel
    have hsz := hb.size
    by_cases hlt : i < n
    · obtain ⟨ad, a, ys, rfl, ha, hy, hc, hs⟩ := hpile.at_ hlt
      have hp6 : p ≤ 6 := by omega
      obtain ⟨r0, r1⟩ := kAt_range k0 k1 (show i ≤ 300 by omega) hp6
      obtain ⟨r2, r3⟩ := kAt_range k0 k1 (show i + 1 ≤ 300 by omega) hp6
      have hblo := (hpile.inner i a ys ha hy).2.1
      have HS := Lib.hid hs
      have HPI := Lib.hid hpile
      have HA := Lib.hid ha
      have HB := Lib.hid hb
      have HST := Lib.hid (kAt_step k p i)
      clear hs hpile ha hy hb
      go_wp2_with fail
      refine (markInts_any _ _ _ _ (kAt k p i) _ _ _ HS.out (by omega) r0 (by omega)).mono ?_
      rintro e w2 ⟨rfl, ho, row, hgr, hrow⟩
      have P2 := Lib.hid (HPI.out.write HA.out ho hgr (fun g e => by have := hrow g e; omega))
      have B2 := Lib.hid (HB.out.grown hgr (by omega) (fun g e => by have := (hrow g e).1; omega))
      have M2 : Hid (Marked k p (i + 1) (zss.set i (marks (kAt k p i) p))) := Lib.hid (fun j hj => by
        by_cases e : j = i
        · subst e
          rw [List.getElem?_set_self (by rw [HPI.out.len]; exact hlt)]
        · rw [List.getElem?_set_ne (Ne.symm e)]
          exact hmk.out j (by omega))
      rw [HST.out]
      clear ho hgr hrow hc
      go_wp2
      go_roundw
      case rel => exact ⟨i + 1, _, by omega, by go_num, rfl, P2.out, M2, B2.out⟩
      case measure => simp [intOf]; omega
    · obtain rfl : i = n := by omega
      have HE := Lib.hid (hmk.out.all hpile.len)
      go_wp2
      go_ret
      refine ⟨rfl, ?_, hb⟩
      rw [← HE.out]
      exact hpile

theorem fk_len {m : Mk} {n : Int} : (fkL m n).length = 0 ∨ m.C.toNat ≤ 6 := by
  unfold fkL
  rcases hm : m.ok with _ | _
  · simp
  · obtain ⟨m1, m2, _⟩ := Mk.ok_true hm
    right; omega

end Go.Proofs.Ytgbicepneonkfaa
