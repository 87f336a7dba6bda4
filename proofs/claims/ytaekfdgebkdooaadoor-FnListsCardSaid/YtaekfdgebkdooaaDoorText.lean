/- Numbers as texts: the model's decimal numerals and texts of lists. -/
import Derived.Test.YtaekfdgebkdooaaDoorList
import Derived.Test.YtaekfdgebkdooaaDoorOwn
import Derived.Lib.ItoaNum
import Derived.Lib.Join
import Derived.Laws.IdiomStrings
import Derived.Laws.Concat
import Derived.Deep.RegionHeld3
namespace Go.Proofs.YtaekfdgebkdooaaDoor
open Go.RowKit

theorem bcell {W w1 : World} {B : Nat} (hb : Below B W w1) : (∀ b o, b < B → w1.cell? ⟨b, o, none⟩ = W.cell? ⟨b, o, none⟩) ∧ (∀ b o, b < B → w1.frozen? ⟨b, o, none⟩ = W.frozen? ⟨b, o, none⟩) :=
  ⟨fun b o h => hb.cell (p := ⟨b, o, none⟩) h, fun b o h => hb.frozen (p := ⟨b, o, none⟩) h⟩

/-- the text t is the bytes l, at most m of them -/
def Txt (t : ByteArray) (l : List UInt8) : Prop := t.data.toList = l
/-- what a call answers that gives a text -/
def GivesText (w : World) (l : List UInt8) (m : Nat) (e : Ending) (w' : World) : Prop := ∃ t : ByteArray, e = .returned (.string t) ∧ Txt t l ∧ t.size ≤ m ∧ Below w.heap.size w w'
theorem size_of {t : ByteArray} {l : List UInt8} (h : t.data.toList = l) : t.size = l.length := by
  rw [← h, Array.length_toList]; rfl
theorem text_eq {s t : ByteArray} (h : s.data.toList = t.data.toList) : s = t := by
  cases s; cases t
  congr 1
  exact Array.ext' h
theorem size_add (s t : ByteArray) : (s ++ t).size = s.size + t.size := ByteArray.size_append
theorem text_add (s t : ByteArray) : (s ++ t).data.toList = s.data.toList ++ t.data.toList := by simp [ByteArray.data_append]

def dig8 (d : Nat) : UInt8 := UInt8.ofNat (48 + d)
def one8 (d : Nat) : ByteArray := ⟨#[dig8 d]⟩
theorem one8_size (d m : Nat) (h : 1 ≤ m) : (one8 d).size ≤ m := h
theorem dig8_nat {d : Nat} (hd : d < 10) : ((dig8 d).toNat : Int) = 48 + (d : Int) := by
  have e : (dig8 d).toNat = 48 + d := UInt8.toNat_ofNat_of_lt' (show 48 + d < 256 by omega)
  rw [e]; rfl
theorem digits_small {n : Nat} (h : n < 10) : Lib.decDigits n = [dig8 n] := by rw [Lib.decDigits, dif_pos h]; rfl
theorem digits_big {n : Nat} (h : ¬ n < 10) : Lib.decDigits n = Lib.decDigits (n / 10) ++ [dig8 (n % 10)] := by rw [Lib.decDigits, dif_neg h]; rfl
theorem digits_le : ∀ (k n : Nat), n < 10 ^ (k + 1) → (Lib.decDigits n).length ≤ k + 1
  | 0, n, h => by rw [digits_small (by simpa using h)]; simp
  | k + 1, n, h => by
    by_cases hn : n < 10
    · rw [digits_small hn]; simp
    · rw [digits_big hn, List.length_append]
      have := digits_le k (n / 10) (by rw [Nat.pow_succ] at h; omega)
      simp; omega
theorem digits_13 {n : Nat} (h : n ≤ 9999999999999) : (Lib.decDigits n).length ≤ 13 := digits_le 12 n (by omega)

theorem one_byte (W : World) (g : Nat) (d : Nat) (hd : d < 10) (hc : W.cell? ⟨g, 0, none⟩ = some (.int .u8 (48 + (d : Int)))) :
    (convert 22 9 (.slice (some ⟨g, 0, none⟩) 1 1)).run Tryd.prog W = .ok (.string (one8 d)) W := by
  refine run_convert_bytes_back W _ _ 5 ⟨g, 0, none⟩ 1 [dig8 d] Tryd.underlying22 Tryd.underlying5 Tryd.underlying9 ?_
  intro j hj
  simp at hj
  subst hj
  simp only [List.getElem_cons_zero, dig8_nat hd]
  simpa [Addr.add] using hc

theorem l01Dec_small (n : Nat) (w : World) (hn : n < 10) :
    Calls Tryd.prog 62 #[.int .i64 n] w (GivesText w (Lib.decDigits n) 13) := by
  rw [digits_small hn]
  have hcv := fun W g => one_byte W g n hn
  have lt : (n : Int) < 10 := by omega
  have hn' := hn
  clear hn
  go_enter Tryd.func62, Tryd.ntmps62
  go_wp2
  go_ret
  exact ⟨one8 n, rfl, rfl, one8_size n 13 (by omega), (Below.refl _ _).alloc (Nat.le_refl _) _⟩

set_option maxHeartbeats 1000000 in
theorem l01Dec_any (n : Nat) (w : World) (h1 : n ≤ 9999999999999) :
    Calls Tryd.prog 62 #[.int .i64 n] w (GivesText w (Lib.decDigits n) 13) := by
  induction n using Nat.strongRecOn generalizing w with
  | _ n ih =>
    by_cases hn : n < 10
    · exact l01Dec_small n w hn
    · have IH : Hid (∀ w, Calls Tryd.prog 62 #[.int .i64 ((n / 10 : Nat) : Int)] w (GivesText w (Lib.decDigits (n / 10)) 13)) := Lib.hid (fun w => ih (n / 10) (by omega) w (by omega))
      clear ih
      have hcv := fun W g => one_byte W g (n % 10) (by omega)
      have e1 : ((n / 10 : Nat) : Int) = (n : Int) / 10 := by omega
      have e2 : ((n % 10 : Nat) : Int) = (n : Int) % 10 := by omega
      rw [e2] at hcv
      rw [e1] at IH
      have ge : ¬ (n : Int) < 10 := by omega
      have q0 : 0 ≤ (n : Int) % 10 := by omega
      have q1 : (n : Int) % 10 < 10 := by omega
      have HN := Lib.hid hn
      clear e1 e2 hn
      go_enter Tryd.func62, Tryd.ntmps62
      go_wp2_with fail
      have s1 : IntKind.i64.wrap ((n : Int).tdiv 10) = (n : Int) / 10 := by rw [Int.tdiv_eq_ediv_of_nonneg (by omega), IntKind.wrap_i64]; omega
      have s2 : IntKind.i64.wrap ((n : Int).tmod 10) = (n : Int) % 10 := by rw [Int.tmod_eq_emod_of_nonneg (by omega), IntKind.wrap_i64]; omega
      have s7 : (n : Int).tmod 10 = (n : Int) % 10 := Int.tmod_eq_emod_of_nonneg (by omega)
      have s8 : (n : Int).tdiv 10 = (n : Int) / 10 := Int.tdiv_eq_ediv_of_nonneg (by omega)
      have s5 : IntKind.i64.wrap ((n : Int) / 10) = (n : Int) / 10 := by rw [IntKind.wrap_i64]; omega
      have s6 : IntKind.i64.wrap ((n : Int) % 10) = (n : Int) % 10 := by rw [IntKind.wrap_i64]; omega
      have s3 : IntKind.i64.wrap (48 + (n : Int) % 10) = 48 + (n : Int) % 10 := by rw [IntKind.wrap_i64]; omega
      have s4 : IntKind.u8.wrap (48 + (n : Int) % 10) = 48 + (n : Int) % 10 := by rw [IntKind.wrap_u8]; omega
      have ho := one8_size (n % 10) 1 (Nat.le_refl 1)
      go_region_with (go_at_call 62; (with_reducible refine (IH.out _).mono ?_); rintro e w' ⟨t, rfl, ht, hz, hb⟩; obtain ⟨hbc, hbf⟩ := bcell hb)
      all_goals go_wp2
      all_goals go_ret
      all_goals refine ⟨t ++ one8 (n % 10), rfl, ?_, ?_, ?_⟩
      all_goals clear s1 s2 s3 s4 s5 s6 s7 s8
      all_goals first
        | (rw [digits_big HN.out]; exact (text_add _ _).trans (by rw [ht]; rfl))
        | (rw [size_of (text_add _ _), List.length_append, ht]; have := digits_13 h1; rw [digits_big HN.out, List.length_append] at this; exact this)
        | exact (Below.trans (Below.refl _ _).drew hb).alloc hb.size _
        | exact (((Below.refl _ _).alloc (Nat.le_refl _) _).drew).trans (hb.mono (by simp))

/-- the text of a list of numbers -/
def txtL (xs : List Int) : List UInt8 := Lib.join (xs.map Lib.itoa) [44]
theorem itoa_nat {v : Int} (h : 0 ≤ v) : Lib.itoa v = Lib.decDigits v.toNat := by unfold Lib.itoa; rw [if_neg (by omega)]
theorem txt_first {xs : List Int} {v : Int} (hv : xs[0]? = some v) (h : 0 ≤ v) : txtL (xs.take 1) = Lib.decDigits v.toNat := by
  cases xs with
  | nil => cases hv
  | cons x r =>
    simp at hv
    subst hv
    unfold txtL
    rw [← itoa_nat h]
    exact Lib.join_one _ _
theorem txt_next {xs : List Int} {k : Nat} {v : Int} (hv : xs[k]? = some v) (h : 0 ≤ v) (hk : 0 < k) : txtL (xs.take (k + 1)) = txtL (xs.take k) ++ [44] ++ Lib.decDigits v.toNat := by
  cases xs with
  | nil => simp at hv
  | cons x r =>
    obtain ⟨q, rfl⟩ : ∃ q, k = q + 1 := ⟨k - 1, by omega⟩
    have hr : (r.map Lib.itoa)[q]? = some (Lib.itoa v) := by
      rw [List.getElem?_map]
      simp at hv
      rw [hv]; rfl
    unfold txtL
    rw [List.take_succ_cons, List.take_succ_cons, List.map_cons, List.map_cons, List.map_take, List.map_take, Lib.join_cons, Lib.join_cons, Lib.joinTail_take_succ _ _ _ _ hr, itoa_nat h]
    simp only [List.append_assoc]
def listT (xs : List Int) : List UInt8 := if withB 0 1000000000000 xs then (if xs.length = 0 then [45] else txtL xs) else []
def listE (xs : List Int) : Int := if withB 0 1000000000000 xs then 0 else 2
theorem list_no {xs : List Int} (h : withB 0 1000000000000 xs = false) : listT xs = [] ∧ listE xs = 2 := by simp [listT, listE, h]
theorem list_none {xs : List Int} (h : withB 0 1000000000000 xs = true) (h2 : xs.length = 0) : listT xs = [45] ∧ listE xs = 0 := by simp [listT, listE, h, h2]
theorem list_some {xs : List Int} (h : withB 0 1000000000000 xs = true) (h2 : xs.length ≠ 0) : listT xs = txtL xs ∧ listE xs = 0 := by simp [listT, listE, h, h2]

theorem l01Text_none (A : Option Addr) (c : Nat) (w : World) :
    Calls Tryd.prog 35 #[.slice A 0 c] w (GivesText w [45] 1) := by
  go_enter Tryd.func35, Tryd.ntmps35
  go_wp2
  go_ret
  exact ⟨⟨#[45]⟩, rfl, rfl, Nat.le_refl 1, Below.refl _ _⟩

set_option maxHeartbeats 1000000 in
theorem l01Text_any (A : Option Addr) (n c : Nat) (xs : List Int) (w : World) (h : Ints w w.heap.size A n xs) (hall : allIn 0 1000000000000 xs = true) (hn : n ≤ 100) (hpos : 0 < n) :
    Calls Tryd.prog 35 #[.slice A n c] w (GivesText w (txtL xs) 1400) := by
  have HL := Lib.hid h.len
  have HA := Lib.hid hall
  clear hall
  have hne : ((n : Int) == 0) = false := by simp; omega
  go_enter Tryd.func35, Tryd.ntmps35
  go_wp2
  go_loopw [3, 4] (fun s i wr => ∃ k : Nat, ∃ t : ByteArray, k ≤ n ∧ i = .int .i64 k ∧ s = .string t ∧ Txt t (txtL (xs.take k)) ∧ t.size ≤ 14 * k ∧ Below w.heap.size w wr) (fun _ i _ => n - (intOf i).toNat)
  case atStart => exact ⟨0, ⟨#[]⟩, Nat.zero_le _, rfl, rfl, rfl, Nat.le_refl 0, Below.refl _ _⟩
  case round =>
    obtain ⟨k, t, hk, rfl, rfl, ht, hz, hb⟩ := hrel
    by_cases hlt : k < n
    · obtain ⟨ad, v, rfl, hab, hv, hc⟩ := (h.below hb).at_ hlt
      obtain ⟨v0, v1⟩ := allIn_at HA.out hv
      obtain ⟨V, rfl⟩ := Int.eq_ofNat_of_zero_le v0
      by_cases h0 : 0 < k
      · have HT := Lib.hid (txt_next hv v0 h0)
        clear hv
        have hz1 : (t ++ ({ data := #[44] } : ByteArray)).size ≤ 14 * k + 1 := by
          rw [size_of (text_add _ _), List.length_append, ← size_of (t := t) rfl]
          simp; omega
        have hz0 : ({ data := #[44] } : ByteArray).size ≤ 1 := Nat.le_refl 1
        have HZ := Lib.hid hz1
        go_wp2_with (go_at_call 62; refine (l01Dec_any _ _ (by omega)).mono ?_; rintro e w' ⟨u, rfl, hu, hzu, hbu⟩)
        go_roundw
        case rel =>
          refine ⟨k + 1, _, by omega, by go_num, rfl, ?_, ?_, hb.trans (hbu.mono hb.size)⟩
          · rw [HT.out]
            show _ = _
            rw [text_add, text_add, ht, hu]; rfl
          · rw [size_add]; have := HZ.out; omega
        case measure => simp [intOf]; omega
      · have HK := Lib.hid (show k = 0 by omega)
        have HV := Lib.hid hv
        clear hv
        go_wp2_with (go_at_call 62; refine (l01Dec_any _ _ (by omega)).mono ?_; rintro e w' ⟨u, rfl, hu, hzu, hbu⟩)
        go_roundw
        case rel =>
          refine ⟨k + 1, _, by omega, by go_num, rfl, ?_, ?_, hb.trans (hbu.mono hb.size)⟩
          · obtain rfl := HK.out
            rw [txt_first HV.out v0]
            show _ = _
            rw [text_add, ht, hu]; rfl
          · rw [size_add]; omega
        case measure => simp [intOf]; omega
    · have HX := Lib.hid (take_end HL.out hlt)
      go_wp2
      go_ret
      exact ⟨t, rfl, by rw [← HX.out]; exact ht, by omega, hb⟩

/-- what a call answers that gives a text and a code -/
def GivesTextCode (w : World) (code : Int) (l : List UInt8) (m : Nat) (e : Ending) (w' : World) : Prop :=
  ∃ t : ByteArray, e = .returned (.tuple #[.string t, .int .i64 code]) ∧ Txt t l ∧ t.size ≤ m ∧ Below w.heap.size w w'
theorem ret_tc {t : ByteArray} {a b : Int} (h : a = b) : Ending.returned (.tuple #[.string t, .int .i64 a]) = .returned (.tuple #[.string t, .int .i64 b]) := by rw [h]

theorem specListText_any (A : Option Addr) (n c : Nat) (xs : List Int) (w : World) (h : Ints w w.heap.size A n xs) (hn : n ≤ 1048576) :
    Calls Tryd.prog 11 #[.slice A n c] w (GivesTextCode w (listE xs) (listT xs) 1400) := by
  have HL := Lib.hid h.len
  rcases hq : withB 0 1000000000000 xs with _ | _
  · obtain ⟨e1, e2⟩ := list_no hq
    rw [e1, e2]; clear e1 e2
    go_enter Tryd.func11, Tryd.ntmps11
    go_wp2_with (go_at_call 34; refine (l01Numbers_any _ _ _ xs _ h hn).mono ?_; rintro e w' ⟨rfl, rfl⟩)
    go_ret2
    exact ⟨⟨#[]⟩, rfl, rfl, by decide, Below.refl _ _⟩
  obtain ⟨hs, hall⟩ := withB_true hq
  by_cases hz : n = 0
  · obtain ⟨e1, e2⟩ := list_none hq (by rw [HL.out]; exact hz)
    rw [e1, e2]; clear e1 e2 hs hall
    subst hz
    go_enter Tryd.func11, Tryd.ntmps11
    go_wp2_with (first | (go_at_call 34; refine (l01Numbers_any _ _ _ xs _ h hn).mono ?_; rintro e w' ⟨rfl, rfl⟩) | (go_at_call 35; refine (l01Text_none _ _ _).mono ?_; rintro e w' ⟨t, rfl, ht, hm, hb⟩))
    go_ret2
    exact ⟨t, rfl, ht, by omega, hb⟩
  · obtain ⟨e1, e2⟩ := list_some hq (by rw [HL.out]; exact hz)
    rw [e1, e2]; clear e1 e2
    have HS := Lib.hid (show n ≤ 100 by have := HL.out; omega)
    have HA := Lib.hid hall
    have HP := Lib.hid (show 0 < n by omega)
    clear hs hall hz
    go_enter Tryd.func11, Tryd.ntmps11
    go_wp2_with (first | (go_at_call 34; refine (l01Numbers_any _ _ _ xs _ h hn).mono ?_; rintro e w' ⟨rfl, rfl⟩) | (go_at_call 35; refine (l01Text_any _ _ _ xs _ h HA.out HS.out HP.out).mono ?_; rintro e w' ⟨t, rfl, ht, hm, hb⟩))
    go_ret2
    exact ⟨t, rfl, ht, hm, hb⟩

end Go.Proofs.YtaekfdgebkdooaaDoor
