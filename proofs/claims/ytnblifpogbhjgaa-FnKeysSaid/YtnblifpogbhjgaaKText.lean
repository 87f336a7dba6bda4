/- KeyText of the program. -/
import Derived.Test.YtnblifpogbhjgaaSFault2
import Derived.Test.YtnblifpogbhjgaaRow
import Derived.Test.YtnblifpogbhjgaaText
namespace Go.Proofs.Ytnblifpogbhjgaa
open Go.RowKit

/-- the text of cuts -/
def textK (xs : List Int) : List UInt8 := xs.map (fun v => dig8 v.toNat)
def ktT (m : Mk) (xs : List Int) : List UInt8 := if isKeyB m xs then textK xs else []
def ktE (m : Mk) (xs : List Int) : Int := if m.ok then (if isKeyB m xs then 0 else 2) else 1
theorem kt_bad {m : Mk} {xs : List Int} (h : m.ok = false) : ktT m xs = [] ∧ ktE m xs = 1 := by simp [ktT, ktE, isKeyB, h]
theorem kt_no {m : Mk} {xs : List Int} (h : m.ok = true) (h2 : isKeyB m xs = false) : ktT m xs = [] ∧ ktE m xs = 2 := by simp [ktT, ktE, h, h2]
theorem kt_yes {m : Mk} {xs : List Int} (h : m.ok = true) (h2 : isKeyB m xs = true) : ktT m xs = textK xs ∧ ktE m xs = 0 := by simp [ktT, ktE, h, h2]
theorem key_facts {m : Mk} {xs : List Int} (h : isKeyB m xs = true) : m.ok = true ∧ (xs.length : Int) = m.C ∧ allIn 0 (m.D - 1) xs = true ∧ stepsB m.S xs = true ∧ runsB m.M xs = true ∧ m.L ≤ (kinds xs : Int) := by
  unfold isKeyB at h
  rw [Bool.and_eq_true] at h
  refine ⟨h.1, ?_⟩
  have hf : faultV m xs = 0 := by simpa using h.2
  unfold faultV at hf
  by_cases h1 : (xs.length : Int) = m.C
  · rw [if_neg (by simp [h1])] at hf
    rcases h2 : allIn 0 (m.D - 1) xs with _ | _
    · rw [if_pos h2] at hf; cases hf
    · rw [if_neg (by simp [h2])] at hf
      rcases h3 : stepsB m.S xs with _ | _
      · rw [if_pos h3] at hf; cases hf
      · rw [if_neg (by simp [h3])] at hf
        rcases h4 : runsB m.M xs with _ | _
        · rw [if_pos h4] at hf; cases hf
        · rw [if_neg (by simp [h4])] at hf
          by_cases h5 : (kinds xs : Int) < m.L
          · rw [if_pos h5] at hf; cases hf
          · exact ⟨h1, rfl, rfl, rfl, by omega⟩
  · rw [if_pos h1] at hf; cases hf
theorem text_len (xs : List Int) : (textK xs).length = xs.length := by simp [textK]
theorem text_at {xs : List Int} {j : Nat} (hd : allIn 0 7 xs = true) (hj : j < (textK xs).length) : (((textK xs)[j]'hj).toNat : Int) = 48 + xs.getD j 0 := by
  have hj' : j < xs.length := by simpa [textK] using hj
  have hv : xs[j]? = some xs[j] := List.getElem?_eq_getElem hj'
  obtain ⟨a, b⟩ := allIn_at hd hv
  show (((xs.map (fun v => dig8 v.toNat))[j]'(by simpa using hj')).toNat : Int) = _
  rw [List.getElem_map, dig8_nat (by omega), getD_at hv]
  omega
theorem allIn_wide {lo hi lo' hi' : Int} {xs : List Int} (h : allIn lo hi xs = true) (h1 : lo' ≤ lo) (h2 : hi ≤ hi') : allIn lo' hi' xs = true := by
  unfold allIn at *
  rw [List.all_eq_true] at *
  intro v hv
  have := inB_true.1 (h v hv)
  exact inB_true.2 (by omega)

/-- what a call answers that gives a text and a code -/
def GivesTextE (w : World) (l : List UInt8) (code : Int) (e : Ending) (w' : World) : Prop := ∃ t : ByteArray, e = .returned (.tuple #[.string t, .int .i64 code]) ∧ Txt t l ∧ t.size ≤ 1048576 ∧ Below w.heap.size w w'
theorem ret_te {t : ByteArray} {a b : Int} (h : a = b) : Ending.returned (.tuple #[.string t, .int .i64 a]) = .returned (.tuple #[.string t, .int .i64 b]) := by rw [h]
/-- the row of a text after k signs -/
def signRow (xs : List Int) (k : Nat) (j : Nat) : Value := .int .u8 (if j < k then 48 + xs.getD j 0 else 0)
theorem signRow_set {xs : List Int} {k : Nat} {v : Int} (hv : xs[k]? = some v) (j : Nat) : (if j = k then Value.int .u8 (48 + v) else signRow xs k j) = signRow xs (k + 1) j := by
  unfold signRow
  by_cases h : j = k
  · subst h
    rw [if_pos rfl, if_pos (by omega), getD_at hv]
  · rw [if_neg h]
    by_cases h2 : j < k
    · rw [if_pos h2, if_pos (by omega)]
    · rw [if_neg h2, if_neg (by omega)]
theorem text_run {W : World} {g : Nat} {xs : List Int} {n cap : Nat} (hl : xs.length = n) (hd : allIn 0 7 xs = true) (hc : ∀ j, j < n → W.cell? ⟨g, j, none⟩ = some (.int .u8 (48 + xs.getD j 0))) :
    ∃ t : ByteArray, Txt t (textK xs) ∧ t.size = n ∧ (convert 22 9 (.slice (some ⟨g, 0, none⟩) n cap)).run Try.prog W = .ok (.string t) W := by
  refine ⟨⟨(textK xs).toArray⟩, rfl, ?_, ?_⟩
  · show (textK xs).toArray.size = n
    simp [text_len, hl]
  · have e : n = (textK xs).length := by rw [text_len, hl]
    rw [e]
    refine run_convert_bytes_back W _ _ 5 ⟨g, 0, none⟩ cap (textK xs) Try.underlying22 Try.underlying5 Try.underlying9 ?_
    intro j hj
    rw [text_at hd hj]
    have := hc j (by rw [text_len, hl] at hj; exact hj)
    unfold Addr.add
    split
    · next h0 => subst h0; exact this
    · simpa using this

set_option maxRecDepth 100000 in
set_option maxHeartbeats 2000000 in
theorem keyText_any (m : Mk) (A : Option Addr) (n c : Nat) (xs : List Int) (w : World) (h : Ints w w.heap.size A n xs) (hn : n ≤ 1048576) :
    Calls Try.prog 36 #[.agg #[.int .i64 m.C, .int .i64 m.D, .int .i64 m.S, .int .i64 m.M, .int .i64 m.L], .slice A n c] w
      (GivesTextE w (ktT m xs) (ktE m xs)) := by
  have HL := Lib.hid h.len
  have b0 := (Below.refl w.heap.size w).alloc (Nat.le_refl _) (.cells #[.int .i64 m.C, .int .i64 m.D, .int .i64 m.S, .int .i64 m.M, .int .i64 m.L] 25)
  have hx := Boxed.new w 25 m
  rcases hm : m.ok with _ | _
  · obtain ⟨e1, e2⟩ := kt_bad (xs := xs) hm
    rw [e1, e2]; clear e1 e2
    go_enter Try.func36, Try.ntmps36
    go_wp2_with fail
    refine (isMaker_any m _).mono ?_
    rw [hm]
    rintro e w1 ⟨rfl, b1⟩
    have c1 := below_trans' b0 b1
    go_wp2
    go_ret2
    exact ⟨⟨#[]⟩, rfl, rfl, Nat.zero_le _, c1⟩
  have HM := Lib.hid hm
  clear hm
  rcases hk : isKeyB m xs with _ | _
  · obtain ⟨e1, e2⟩ := kt_no HM.out hk
    rw [e1, e2]; clear e1 e2
    have HK := Lib.hid hk
    clear hk
    go_enter Try.func36, Try.ntmps36
    go_wp2_with fail
    refine (isMaker_any m _).mono ?_
    rw [HM.out]
    rintro e w1 ⟨rfl, b1⟩
    have x1 := hx.on b1
    have c1 := below_trans' b0 b1
    obtain ⟨q0, q1, q2, q3, q4⟩ := x1.cells
    clear hx b0 b1 x1
    go_wp2_with fail
    clear q0 q1 q2 q3 q4
    refine (isKey_any m _ _ _ xs _ (h.on c1) hn).mono ?_
    rw [HK.out]
    rintro e w2 ⟨rfl, b2⟩
    have c2 := below_trans' c1 b2
    go_wp2
    go_ret2
    exact ⟨⟨#[]⟩, rfl, rfl, Nat.zero_le _, c2⟩
  · obtain ⟨e1, e2⟩ := kt_yes HM.out hk
    rw [e1, e2]; clear e1 e2
    have HK := Lib.hid hk
    clear hk
    obtain ⟨m1, m2, m3, m4, m5, m6, m7, m8, m9, m10, m11⟩ := Mk.ok_true HM.out
    have HD : Hid (allIn 0 7 xs = true) := Lib.hid (allIn_wide (key_facts HK.out).2.2.1 (Int.le_refl _) (by omega))
    have hn6 : n ≤ 6 := by have := (key_facts HK.out).2.1; rw [HL.out] at this; omega
    have hmk := run_make_row' (P := Try.prog) 22 5 (.int .u8 0) 1 Try.underlying22 Try.info5' rfl .i64 .i64 n (by omega) (by omega)
    go_enter Try.func36, Try.ntmps36
    go_wp2_with fail
    refine (isMaker_any m _).mono ?_
    rw [HM.out]
    rintro e w1 ⟨rfl, b1⟩
    have x1 := hx.on b1
    have c1 := below_trans' b0 b1
    obtain ⟨q0, q1, q2, q3, q4⟩ := x1.cells
    clear hx b0 b1 x1
    go_wp2_with fail
    clear q0 q1 q2 q3 q4
    refine (isKey_any m _ _ _ xs _ (h.on c1) hn).mono ?_
    rw [HK.out]
    rintro e w2 ⟨rfl, b2⟩
    have c2 := below_trans' c1 b2
    have s2 := c2.size
    clear c1 b2
    go_wp2
    clear hmk
    go_loopw [21] (fun i wr => ∃ k : Nat, k ≤ n ∧ i = .int .i64 k ∧ wr.rowIs w2.heap.size 5 n (signRow xs k) ∧ Below w.heap.size w wr) (fun i _ => n - (intOf i).toNat)
    case atStart =>
      refine ⟨0, Nat.zero_le _, rfl, (World.rowIs_made w2 (.int .u8 0) n 5).congr (fun i _ => by simp [signRow]), c2.alloc s2 _⟩
    case round =>
      obtain ⟨k, hk, rfl, hrow, hb⟩ := hrel
      by_cases hlt : k < n
      · obtain ⟨ad, v, rfl, hab, hv, hc⟩ := (h.below hb).at_ hlt
        obtain ⟨v0, v1⟩ := allIn_at HD.out hv
        have hst := hrow.cell hlt
        have hfz := hrow.frozen k
        have HV := Lib.hid hv
        clear hv
        have HR := Lib.hid hrow
        clear hrow
        have s4 : IntKind.u8.wrap (48 + v) = 48 + v := by rw [IntKind.wrap_u8]; omega
        go_wp2
        clear s4
        go_roundw
        case rel => exact ⟨k + 1, by omega, by go_num, (HR.out.set k (.int .u8 (48 + v))).congr (fun j _ => signRow_set HV.out j), hb.setCell (by simp; omega) _⟩
        case measure => simp [intOf]; omega
      · have hcell : ∀ j, j < n → wr.cell? ⟨w2.heap.size, j, none⟩ = some (.int .u8 (48 + xs.getD j 0)) := fun j hj => by
          rw [hrow.cell hj]; unfold signRow; rw [if_pos (by omega)]
        obtain ⟨t, ht, hz, hcv⟩ := text_run (cap := n) HL.out HD.out hcell
        have HZ := Lib.hid hz
        clear hz hcell
        go_wp2
        go_ret2
        exact ⟨t, rfl, ht, by rw [HZ.out]; omega, hb⟩

end Go.Proofs.Ytnblifpogbhjgaa
