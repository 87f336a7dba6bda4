/- All side codes in order, and the families among them: plain lists. The model's function that gives the code with a number: contract. -/
import Derived.Test.YtpabccgndhmcdaaKeyS
import Derived.Test.YtpabccgndhmcdaaApart
import Derived.Test.YtpabccgndhmcdaaDigs
namespace Go.Proofs.Ytpabccgndhmcdaa
open Go.RowKit

/-- the side code with a number -/
def codeN (s : Nat) (v : Int) (n : Int) : List Int := digits (List.replicate s v) n
theorem codeN_len (s : Nat) (v n : Int) : (codeN s v n).length = s := by simp [codeN, digits_len]
theorem rep_getD {s : Nat} {v : Int} {i : Nat} (hi : i < s) : (List.replicate s v).getD i 1 = v := by
  rw [List.getD_eq_getElem?_getD, List.getElem?_replicate, if_pos hi]; rfl
theorem codeN_in {s : Nat} {v : Int} (n : Int) (hv : 2 ≤ v) : allIn 0 (v - 1) (codeN s v n) = true := by
  unfold allIn codeN digits
  rw [List.all_eq_true]
  intro u hu
  obtain ⟨i, hi, rfl⟩ := List.mem_map.1 hu
  rw [List.mem_range, List.length_replicate] at hi
  unfold digit
  rw [rep_getD hi]
  have h1 := Int.emod_nonneg (quo (List.replicate s v) n ((List.replicate s v).length - 1 - i)) (show v ≠ 0 by omega)
  have h2 := Int.emod_lt_of_pos (quo (List.replicate s v) n ((List.replicate s v).length - 1 - i)) (show 0 < v by omega)
  exact inB_true.2 ⟨h1, by omega⟩
theorem codeN_small {s : Nat} {v : Int} (n : Int) (hv : 2 ≤ v) (hv5 : v ≤ 5) : Sc s (codeN s v n) := by
  refine ⟨codeN_len s v n, fun u hu => ?_⟩
  obtain ⟨j, hj⟩ := List.getElem?_of_mem hu
  have := allIn_at (codeN_in (s := s) n hv) hj
  omega
theorem rep_bases {s : Nat} {v : Int} (hs : s ≤ 5) (hv : 2 ≤ v) (hv5 : v ≤ 5) : withB 1 100 (List.replicate s v) = true := by
  unfold withB allIn
  rw [List.length_replicate, decide_eq_true (by omega), Bool.true_and, List.all_eq_true]
  intro u hu
  rw [(List.mem_replicate.1 hu).2]
  exact inB_true.2 (by omega)
/-- what is left of a number behind all places -/
theorem quo_zero {s : Nat} {v n : Int} (h1 : 1 ≤ s) (h5 : s ≤ 5) (hv : 2 ≤ v) (hv5 : v ≤ 5) (hn : 0 ≤ n) : 0 < quo (List.replicate s v) n (List.replicate s v).length ↔ powC v s ≤ n := by
  have hs' : s = 1 ∨ s = 2 ∨ s = 3 ∨ s = 4 ∨ s = 5 := by omega
  have hv' : v = 2 ∨ v = 3 ∨ v = 4 ∨ v = 5 := by omega
  rcases hs' with rfl | rfl | rfl | rfl | rfl <;> rcases hv' with rfl | rfl | rfl | rfl <;> simp [quo, powC, capM, List.replicate] <;> omega
theorem dig_code {s : Nat} {v n : Int} (h1 : 1 ≤ s) (h5 : s ≤ 5) (hv : 2 ≤ v) (hv5 : v ≤ 5) (hn : 0 ≤ n) (hn5 : n ≤ 100000) (h : n < powC v s) : digL n (List.replicate s v) = codeN s v n ∧ digE n (List.replicate s v) = 0 :=
  dig_yes (inB_true.2 (by omega)) (rep_bases h5 hv hv5) (by rw [quo_zero h1 h5 hv hv5 hn]; omega)
theorem dig_over {s : Nat} {v n : Int} (h1 : 1 ≤ s) (h5 : s ≤ 5) (hv : 2 ≤ v) (hv5 : v ≤ 5) (hn : 0 ≤ n) (h : ¬ n < powC v s) : digL n (List.replicate s v) = [] ∧ digE n (List.replicate s v) = 2 :=
  dig_no (.inr (.inr (by rw [quo_zero h1 h5 hv hv5 hn]; omega)))

/-- the families among the first k codes -/
def famTo (s : Nat) (v d : Int) : Nat → List (List Int)
  | 0 => []
  | k + 1 => if farB d (famTo s v d k) (codeN s v k) then famTo s v d k ++ [codeN s v k] else famTo s v d k
theorem fam_yes {s : Nat} {v d : Int} {k : Nat} (h : farB d (famTo s v d k) (codeN s v k) = true) : famTo s v d (k + 1) = famTo s v d k ++ [codeN s v k] := by
  show (if farB d (famTo s v d k) (codeN s v k) then _ else _) = _
  rw [if_pos h]
theorem fam_not {s : Nat} {v d : Int} {k : Nat} (h : farB d (famTo s v d k) (codeN s v k) = false) : famTo s v d (k + 1) = famTo s v d k := by
  show (if farB d (famTo s v d k) (codeN s v k) then _ else _) = _
  rw [if_neg (by simp [h])]
theorem fam_mem {s : Nat} {v d : Int} : ∀ {k : Nat} {f : List Int}, f ∈ famTo s v d k → ∃ j : Nat, j < k ∧ f = codeN s v j
  | 0, f, h => by simp [famTo] at h
  | k + 1, f, h => by
    rcases hf : farB d (famTo s v d k) (codeN s v k) with _ | _
    · rw [fam_not hf] at h
      obtain ⟨j, hj, e⟩ := fam_mem h
      exact ⟨j, by omega, e⟩
    · rw [fam_yes hf] at h
      rcases List.mem_append.1 h with h | h
      · obtain ⟨j, hj, e⟩ := fam_mem h
        exact ⟨j, by omega, e⟩
      · exact ⟨k, by omega, by simpa using h⟩
theorem fam_len {s : Nat} {v d : Int} {k j : Nat} {f : List Int} (h : (famTo s v d k)[j]? = some f) : f.length = s := by
  obtain ⟨i, _, rfl⟩ := fam_mem (List.mem_of_getElem? h)
  exact codeN_len s v i
theorem fam_count (s : Nat) (v d : Int) : ∀ k, (famTo s v d k).length ≤ k
  | 0 => by simp [famTo]
  | k + 1 => by
    have := fam_count s v d k
    rcases hf : farB d (famTo s v d k) (codeN s v k) with _ | _
    · rw [fam_not hf]; omega
    · rw [fam_yes hf, List.length_append]; simp; omega
theorem fam_pre (s : Nat) (v d : Int) (k : Nat) : ∀ n, k ≤ n → ∃ r, famTo s v d n = famTo s v d k ++ r
  | 0, h => ⟨[], by rw [show k = 0 by omega]; simp⟩
  | n + 1, h => by
    by_cases e : k = n + 1
    · exact ⟨[], by rw [e]; simp⟩
    · obtain ⟨r, hr⟩ := fam_pre s v d k n (by omega)
      rcases hf : farB d (famTo s v d n) (codeN s v n) with _ | _
      · exact ⟨r, by rw [fam_not hf, hr]⟩
      · exact ⟨r ++ [codeN s v n], by rw [fam_yes hf, hr, List.append_assoc]⟩
theorem fam_take {s : Nat} {v d : Int} {k n m : Nat} (hk : k ≤ n) (hl : (famTo s v d k).length ≤ m) (h : k = n ∨ (famTo s v d k).length = m) : (famTo s v d n).take m = famTo s v d k := by
  rcases h with rfl | h
  · exact List.take_of_length_le hl
  · obtain ⟨r, hr⟩ := fam_pre s v d k n hk
    rw [hr, ← h, List.take_left]

/-- is a code near one of the families among the first k codes -/
def nearP (s : Nat) (v d : Int) (F : List (List Int)) (ys : List Int) : Bool := F.any (fun f => allIn 0 (v - 1) ys && decide (diffTo f ys s ≤ d - 1))
theorem near_far {s : Nat} {v d : Int} {k : Nat} (n : Int) (hv : 2 ≤ v) : nearP s v d (famTo s v d k) (codeN s v n) = !farB d (famTo s v d k) (codeN s v n) := by
  have e : ∀ f, f ∈ famTo s v d k → diffI f (codeN s v n) = diffTo f (codeN s v n) s := by
    intro f hf
    obtain ⟨j, _, rfl⟩ := fam_mem hf
    unfold diffI
    rw [codeN_len]
  unfold nearP farB
  rw [codeN_in n hv, Bool.eq_iff_iff]
  simp only [List.any_eq_true, Bool.true_and, decide_eq_true_eq, Bool.not_eq_true', List.all_eq_false]
  constructor
  · rintro ⟨f, hf, h⟩
    exact ⟨f, hf, by rw [e f hf]; omega⟩
  · rintro ⟨f, hf, h⟩
    exact ⟨f, hf, by rw [e f hf] at h; omega⟩
theorem near_more {s : Nat} {v d : Int} {F : List (List Int)} {f : List Int} (ys : List Int) : nearP s v d (F ++ [f]) ys = (nearP s v d F ys || (allIn 0 (v - 1) ys && decide (diffTo f ys s ≤ d - 1))) := by
  unfold nearP
  rw [List.any_append]
  simp

theorem l07At_any (s : Nat) (v m : Int) (w : World) (hs : s ≤ 5) (hv : 2 ≤ v) (hv5 : v ≤ 5) (m0 : 0 ≤ m) (m1 : m ≤ 1000000000000) :
    Calls Try.prog 75 #[.int .i64 (s : Int), .int .i64 v, .int .i64 m] w fun e w' => e = .returned (.slice (some ⟨w.heap.size, 0, none⟩) s s) ∧ w'.rowIs w.heap.size 2 s (fun j => .int .i64 ((codeN s v m).getD j 0)) ∧ Below w.heap.size w w' := by
  have hmk := run_make_row' (P := Try.prog) 24 2 (.int .i64 0) 8 Try.underlying24 Try.info2' rfl .i64 .i64 s (by omega) (by omega)
  have HL : Hid ((List.replicate s v).length = s) := Lib.hid List.length_replicate
  have HA := Lib.hid (withB_true (rep_bases hs hv hv5)).2
  go_enter Try.func75, Try.ntmps75
  go_wp2
  clear hmk
  go_loopw [2, 8] (fun q i wr => ∃ j : Nat, j ≤ s ∧ i = .int .i64 ((s : Int) - 1 - j) ∧ q = .int .i64 (quo (List.replicate s v) m j) ∧ wr.rowIs w.heap.size 2 s (digRow (List.replicate s v) m s j) ∧ Below w.heap.size w wr) (fun _ i _ => (intOf i + 1).toNat)
  case atStart =>
    refine ⟨0, Nat.zero_le _, by go_num, rfl, (World.rowIs_made w (.int .i64 0) s 2).congr (fun i hi => by unfold digRow; rw [if_neg (by omega)]), (Below.refl _ _).alloc (Nat.le_refl _) _⟩
  case round =>
    obtain ⟨j, hj, rfl, rfl, hrow, hb⟩ := hrel
    obtain ⟨r0, r1⟩ := quo_range m0 m1 HA.out j (by rw [HL.out]; exact hj)
    by_cases hlt : j < s
    · have hvv : (List.replicate s v)[s - 1 - j]? = some v := by rw [List.getElem?_replicate, if_pos (by omega)]
      have hst := hrow.cell (show s - 1 - j < s by omega)
      have hfz := hrow.frozen (s - 1 - j)
      have HS := Lib.hid (quo_step (m := m) HL.out hvv)
      have HV := Lib.hid hvv
      clear hvv
      have HR := Lib.hid hrow
      clear hrow
      have b0 : 1 ≤ v := by omega
      have ix1 : ((s : Int) - 1 - j).toNat = s - 1 - j := by omega
      have ix2 : 0 ≤ (s : Int) - 1 - j := by omega
      have ix3 : (s : Int) - 1 - j < s := by omega
      go_wp2
      go_roundw
      case rel => clear ix1 ix2 ix3; exact ⟨j + 1, by omega, by go_num, by rw [HS.out], (HR.out.set (s - 1 - j) (.int .i64 (quo (List.replicate s v) m j % v))).congr (fun i hi => digRow_set HL.out hlt HV.out i hi), hb.setCell (by simp) _⟩
      case measure => clear ix1 ix2 ix3; simp [intOf]; omega
    · have hge : ¬ 0 ≤ (s : Int) - 1 - j := by omega
      have hrow' := hrow.congr (fun i hi => digRow_end (m := m) HL.out (by omega) i hi)
      have HO := Lib.hid hrow'
      clear hrow hrow'
      go_wp2
      go_ret
      exact ⟨rfl, HO.out, hb⟩

end Go.Proofs.Ytpabccgndhmcdaa
