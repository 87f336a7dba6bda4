/- l02Count and CountKeys of the model. -/
import Derived.Test.YtbadahnhlehidaaSFirst
namespace Go.Proofs.Ytbadahnhlehidaa
open Go.RowKit

theorem flat_len {f : Nat → List (List Int)} {B : Nat} (h : ∀ d, (f d).length ≤ B) : ∀ l : List Nat, (l.flatMap f).length ≤ l.length * B
  | [] => by simp
  | a :: l => by
    rw [List.flatMap_cons, List.length_append, List.length_cons, Nat.succ_mul]
    have := flat_len h l
    have := h a
    omega
theorem keys_count {m : Mk} (hD : m.D ≤ 8) : ∀ (k : Nat) (xs : List Int), (keysFrom m k xs).length ≤ 8 ^ k
  | 0, xs => by unfold keysFrom; split <;> simp
  | k + 1, xs => by
    unfold keysFrom
    split
    · have h := flat_len (f := fun (d : Nat) => keysFrom m k (xs ++ [(d : Int)])) (B := 8 ^ k) (fun d => keys_count hD k _) (List.range m.D.toNat)
      rw [List.length_range] at h
      refine Nat.le_trans h ?_
      rw [Nat.pow_succ, Nat.mul_comm]
      exact Nat.mul_le_mul_left _ (by omega)
    · simp
theorem pow8 {k : Nat} (h : k ≤ 6) : 8 ^ k ≤ 262144 := by
  have := Nat.pow_le_pow_right (n := 8) (by decide) h
  simpa using this

def CountAll (m : Mk) (k : Nat) : Prop :=
  ∀ (A : Option Addr) (n c : Nat) (xs : List Int) (w : World), ((n + k : Nat) : Int) = m.C → Ints w w.heap.size A n xs → n ≤ c → c ≤ 9223372036854775807 → (A = none → n = 0 ∧ c = 0) → allIn 0 (m.D - 1) xs = true →
    Calls Try.prog 114 #[.agg #[.int .i64 m.C, .int .i64 m.D, .int .i64 m.S, .int .i64 m.M, .int .i64 m.L], .slice A n c] w fun e w' => e = .returned (.int .i64 ((keysFrom m k xs).length : Int)) ∧ Below w.heap.size w w'

set_option maxRecDepth 100000 in
set_option maxHeartbeats 8000000 in
theorem l02Count_step (m : Mk) (hm : m.ok = true) (k : Nat) (IH : ∀ j, k = j + 1 → CountAll m j) : CountAll m k := by
  intro A n c xs w hnk h hc hcm hA hd
  obtain ⟨m1, m2, m3, m4, m5, m6, m7, m8, m9, m10, m11⟩ := Mk.ok_true hm
  have HM := Lib.hid hm
  have HNK := Lib.hid hnk
  have hn6 : n ≤ 6 := by omega
  have hk6 : k ≤ 6 := by omega
  have HD := Lib.hid hd
  have HI := Lib.hid IH
  have HA := Lib.hid hA
  have HL := Lib.hid h.len
  clear hm hnk hd IH hA
  have b0 := (Below.refl w.heap.size w).alloc (Nat.le_refl _) (.cells #[.int .i64 m.C, .int .i64 m.D, .int .i64 m.S, .int .i64 m.M, .int .i64 m.L] 29)
  have hx := Boxed.new w 29 m
  have hTb : (keysFrom m k xs).length ≤ 262144 := Nat.le_trans (keys_count m4 k xs) (pow8 hk6)
  generalize hT : (keysFrom m k xs).length = T at hTb ⊢
  have HT := Lib.hid hT
  clear hT
  obtain ⟨i0, hi, hz0, hz1, hz2⟩ := info_parts Try.info2'
  have HF := Lib.hid (And.intro hi (And.intro hz0 (And.intro hz1 hz2)))
  clear hi hz0 hz1 hz2
  go_enter Try.func114, Try.ntmps114
  go_wp2_with fail
  refine (l02Begins_any m _ _ _ xs _ (h.on b0) (by omega) HM.out HD.out).mono ?_
  rcases hb : beginsB m xs with _ | _
  · rintro e w1 ⟨rfl, b1⟩
    have c1 := below_trans' b0 b1
    have HE : Hid (T = 0) := Lib.hid (by rw [← HT.out, keys_stop hb]; rfl)
    clear b0 b1 hb hx
    go_wp2
    go_ret
    exact ⟨ret_int (by rw [HE.out]; rfl), c1⟩
  rintro e w1 ⟨rfl, b1⟩
  have HB := Lib.hid hb
  have c1 := below_trans' b0 b1
  have x1 := hx.on b1
  clear b0 b1 hb hx
  obtain ⟨q0, q1, q2, q3, q4⟩ := x1.cells
  rcases k with _ | j
  · have htest : ((n : Int) == m.C) = true := by have := HNK.out; simp; omega
    have hi1 := h.on c1
    by_cases hL : (kinds xs : Int) < m.L
    · have dL : decide ((kinds xs : Int) < m.L) = true := by simpa using hL
      have HE : Hid (T = 0) := Lib.hid (by rw [← HT.out, keys_zero_no HB.out (by omega)]; rfl)
      clear hL
      go_wp2
      go_quiet ((go_at_call 137; exact quiet_on (l02Kinds_any _ _ _ xs _ (ints_drewN hi1 _) (by omega) hc hcm)))
      go_wp2
      go_ret
      exact ⟨ret_int (by rw [HE.out]; rfl), below_drewN c1 _⟩
    · have dL : decide ((kinds xs : Int) < m.L) = false := by simpa using hL
      have HE : Hid (T = 1) := Lib.hid (by rw [← HT.out, keys_zero_yes HB.out (by omega)]; rfl)
      clear hL
      go_wp2
      go_quiet ((go_at_call 137; exact quiet_on (l02Kinds_any _ _ _ xs _ (ints_drewN hi1 _) (by omega) hc hcm)))
      go_wp2
      go_ret
      exact ⟨ret_int (by rw [HE.out]; rfl), below_drewN c1 _⟩
  · have htest : ((n : Int) == m.C) = false := by have := HNK.out; simp; omega
    have HS := Lib.hid (keys_succ (k := j) HB.out)
    go_wp2
    clear q0 q1 q2 q3 q4
    go_loopw [5, 6] (fun z x wr => ∃ d s : Nat, x = .int .i64 d ∧ z = .int .i64 s ∧ d ≤ 8 ∧ Hid (s + (tails m j xs d).length = T) ∧ Boxed wr w.heap.size 29 m ∧ Below w.heap.size w wr) (fun _ x _ => 9 - (intOf x).toNat)
    case atStart => exact ⟨0, 0, rfl, rfl, by omega, Lib.hid (by rw [← HT.out, HS.out]; omega), x1, c1⟩
    case round =>
      obtain ⟨d, s, rfl, rfl, hd8, hall, hbox, hbl⟩ := hrel
      clear x1 c1
      obtain ⟨q0, q1, q2, q3, q4⟩ := hbox.cells
      have hsz := hbl.size
      by_cases hlt : (d : Int) < m.D
      · have hI := h.below hbl
        have HX := Lib.hid hbox
        have HBL := Lib.hid hbl
        have hlw := hbox.lt
        clear hbox hbl
        have e0 := World.new_ne wr ⟨w.heap.size, 0, none⟩ q0
        have e1 := World.new_ne wr ⟨w.heap.size, 1, none⟩ q1
        have e2 := World.new_ne wr ⟨w.heap.size, 2, none⟩ q2
        have e3 := World.new_ne wr ⟨w.heap.size, 3, none⟩ q3
        have e4 := World.new_ne wr ⟨w.heap.size, 4, none⟩ q4
        have HTS := Lib.hid (tails_step (m := m) (k := j) (xs := xs) (d := d) (by omega))
        have hs1 : s ≤ T ∧ s + (keysFrom m j (xs ++ [(d : Int)])).length ≤ T := by
          have := hall.out
          rw [HTS.out, List.length_append] at this
          omega
        obtain ⟨hs1, hs2⟩ := hs1
        generalize hQ : (keysFrom m j (xs ++ [(d : Int)])).length = Q at hs2
        have HQ := Lib.hid hQ
        clear hQ
        have g1 : IntKind.i64.wrap ((s : Int) + (Q : Int)) = (s : Int) + (Q : Int) := IntWalk.i64_in _ (by omega)
        go_wp2
        go_region_held3 (fun w' => w'.cell? ⟨w.heap.size, 0, none⟩ = some (.int .i64 m.C) ∧ w'.cell? ⟨w.heap.size, 1, none⟩ = some (.int .i64 m.D) ∧ w'.cell? ⟨w.heap.size, 2, none⟩ = some (.int .i64 m.S) ∧ w'.cell? ⟨w.heap.size, 3, none⟩ = some (.int .i64 m.M) ∧ w'.cell? ⟨w.heap.size, 4, none⟩ = some (.int .i64 m.L))
          (first
            | go_keep
            | exact ⟨(b2.cell (p := ⟨w.heap.size, 0, none⟩) hlw).trans q0, (b2.cell (p := ⟨w.heap.size, 1, none⟩) hlw).trans q1, (b2.cell (p := ⟨w.heap.size, 2, none⟩) hlw).trans q2, (b2.cell (p := ⟨w.heap.size, 3, none⟩) hlw).trans q3, (b2.cell (p := ⟨w.heap.size, 4, none⟩) hlw).trans q4⟩
            | exact XZ.out.cells
            | exact X5.out.cells
            | exact X6.out.cells)
          (first
            | (go_at_call 115; refine (l01Own_any A n c xs _ (ints_drewN (hI.more (Nat.le_of_lt hlw)) 1) (by omega) HA.out).mono ?_; rintro e w2 ⟨v2, rfl, r2, b2⟩; have X2 := Lib.hid ((HX.out.drewN 1).on b2))
            | (refine step_append_lies _ (by rfl) _ _ _ (by rfl) wr.heap.size 2 i0 _ 1 8 Try.underlying42 HF.out.1 HF.out.2.1 HF.out.2.2.1 HF.out.2.2.2 rfl (by omega) v2 n (intsV xs) (by rfl) (r2.alloc _) ⟨w2.heap.size, 0, none⟩ 1 1 [.int .i64 (d : Int)] (by rfl) (by rfl) (World.news_of_block (cs := #[.int .i64 (d : Int)]) (t := 2) (fr := (0, 0)) (heap_alloc_new w2 _)) (by simp [Value.oneCell']) (by omega) (by unfold maxLen; omega) (by omega) (by have := b2.size; simp at this ⊢; omega) (w2.heap.size + 1) (by simp) ?_; intro gg cap w5 hown1 hgrow hat hlt3; have X5 := Lib.hid ((X2.out.alloc (.cells #[.int .i64 (d : Int)] 2)).grown hgrow (by intro e; have := rowBase r2 _ e.symm; simp at this; omega)); have B5 := Lib.hid ((((below_drewN HBL.out 1).trans (b2.mono HBL.out.size)).alloc (by have := b2.size; simp at this; omega) (.cells #[.int .i64 (d : Int)] 2)).grown hgrow (by have := b2.size; simp at this ⊢; omega) (fun q e => by have := rowBase r2 q e; simp at this; omega)))
            | (go_at_call 114; have hrow5 := hown1; rw [intsV_snoc] at hrow5; obtain ⟨ho5, hc5, hm5⟩ := rowIntsAt hrow5 (by rw [List.length_append, HL.out]; rfl); refine (HI.out j rfl (some ⟨gg, 0, none⟩) (n + 1) cap (xs ++ [(d : Int)]) w5 (by have := HNK.out; omega) ho5.ints hc5 hm5 (by simp) (depth_snoc HD.out hlt)).mono ?_; rw [HQ.out]; rintro e w6 ⟨rfl, b6⟩; have X6 := Lib.hid (X5.out.on b6))
            | (go_at_call 115; refine (l01Own_any A n c xs _ (ints_drewN (hI.alloc (Nat.le_of_lt hlw) (.cells #[.int .i64 (d : Int)] 2)) 1) (by omega) HA.out).mono ?_; rintro e wz ⟨vz, rfl, rz, bz⟩; have XZ := Lib.hid (((HX.out.alloc (.cells #[.int .i64 (d : Int)] 2)).drewN 1).on bz))
            | (refine step_append_lies _ (by rfl) _ _ _ (by rfl) wr.heap.size 2 i0 _ 1 8 Try.underlying42 HF.out.1 HF.out.2.1 HF.out.2.2.1 HF.out.2.2.2 rfl (by omega) vz n (intsV xs) (by rfl) (rowMore rz (by simp)) ⟨wr.heap.size, 0, none⟩ 1 1 [.int .i64 (d : Int)] (by rfl) (by rfl) (news_behind bz) (by simp [Value.oneCell']) (by omega) (by unfold maxLen; omega) (by omega) (by have := bz.size; simp at this ⊢; omega) wz.heap.size rfl ?_; intro gg cap w5 hown1 hgrow hat hlt3; have X5 := Lib.hid (XZ.out.grown hgrow (by intro e; have := rowBase rz _ e.symm; simp at this; omega)); have B5 := Lib.hid (((below_drewN (HBL.out.alloc HBL.out.size (.cells #[.int .i64 (d : Int)] 2)) 1).trans (bz.mono (by simp; omega))).grown hgrow (by have := bz.size; simp at this ⊢; omega) (fun q e => by have := rowBase rz q e; simp at this; omega))))
        all_goals
          have B6 := Lib.hid (B5.out.trans (b6.mono (by have := B5.out.size; exact this)))
          clear q0 q1 q2 q3 q4 e0 e1 e2 e3 e4 hown1 hgrow hat hlt3 b6 X5 B5 g1
          go_wp2
          go_roundw
          case rel => exact ⟨d + 1, s + Q, by go_num, by go_num, by omega, Lib.hid (by have := hall.out; rw [HTS.out, List.length_append, HQ.out] at this; omega), X6.out, B6.out⟩
          case measure => simp [intOf]; omega
      · have HE : Hid (s = T) := Lib.hid (by
          have h1 := hall.out
          rwa [tails_end (m := m) (k := j) (xs := xs) (d := d) (by omega)] at h1)
        clear hall
        go_wp2
        go_ret
        exact ⟨ret_int (by rw [HE.out]), hbl⟩

theorem l02Count_any (m : Mk) (hm : m.ok = true) : ∀ k, CountAll m k
  | 0 => l02Count_step m hm 0 (fun j h => by omega)
  | k + 1 => l02Count_step m hm (k + 1) (fun j h => by
    have e : k = j := by omega
    subst e
    exact l02Count_any m hm k)

def cntV (m : Mk) : Int := if m.ok then ((allKeys m).length : Int) else 0
def cntE (m : Mk) : Int := if m.ok then 0 else 1
theorem cnt_bad {m : Mk} (h : m.ok = false) : cntV m = 0 ∧ cntE m = 1 := by simp [cntV, cntE, h]
theorem cnt_yes {m : Mk} (h : m.ok = true) : cntV m = ((allKeys m).length : Int) ∧ cntE m = 0 := by simp [cntV, cntE, h]

end Go.Proofs.Ytbadahnhlehidaa
