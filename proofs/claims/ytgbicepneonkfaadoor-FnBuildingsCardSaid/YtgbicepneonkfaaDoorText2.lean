/- ListText of the program, by the library's contracts for FormatInt and Join; the law's walk. -/
import Derived.Test.YtgbicepneonkfaaDoorRow
import Derived.Test.YtgbicepneonkfaaDoorShelf
import Derived.Lib.AppendIntMem
namespace Go.Proofs.YtgbicepneonkfaaDoor
open Go.RowKit

theorem tab_on {w w1 : World} {P : Program} {s : String} {k : IntKind} {zs : List Int} (h : Lib.TabBelow P w.heap.size w s k zs) (hb : Below w.heap.size w w1) : Lib.TabBelow P w1.heap.size w1 s k zs :=
  fun w' h' => h w' (hb.trans (h'.mono hb.size))
def wd (v : Int) : ByteArray := ⟨(Lib.itoa v).toArray⟩
theorem wd_txt (v : Int) : Txt (wd v) (Lib.itoa v) := rfl

theorem fmt_any (v : Nat) (h : v ≤ 1000000000000) (w : World) (htab : Lib.TabBelow Tryd.prog w.heap.size w "internal/strconv.uint64pow10" .u64 Lib.pow10Tab) :
    Calls Tryd.prog 35 #[.int .i64 v, .int .i64 10] w fun e w' => e = .returned (.string (wd v)) ∧ Below w.heap.size w w' :=
  (Tryd.strconv_FormatInt_10 v (by omega) (by omega) w htab.here).mono fun _ _ ⟨he, k, os, hw⟩ => ⟨he, by rw [hw]; exact Lib.below_grow _ w (Nat.le_refl _) k os⟩

def wordAt (xs : List Int) (k : Nat) (j : Nat) : Value := .string (if j < k then wd (xs.getD j 0) else ByteArray.empty)
theorem word_set {xs : List Int} {k : Nat} {v : Int} (hv : xs[k]? = some v) (j : Nat) : (if j = k then Value.string (wd v) else wordAt xs k j) = wordAt xs (k + 1) j := by
  unfold wordAt
  by_cases h : j = k
  · subst h
    rw [if_pos rfl, if_pos (by omega), List.getD_eq_getElem?_getD, hv]; rfl
  · rw [if_neg h]
    by_cases h2 : j < k
    · rw [if_pos h2, if_pos (by omega)]
    · rw [if_neg h2, if_neg (by omega)]
def words (xs : List Int) : List ByteArray := xs.map wd
theorem words_bytes (xs : List Int) : (words xs).map (fun b => b.data.toList) = xs.map Lib.itoa := by
  unfold words
  rw [List.map_map]
  rfl

/-- numbers in decimal with a sign between them -/
def txtB (b : UInt8) (xs : List Int) : List UInt8 := Lib.join (xs.map Lib.itoa) [b]
theorem join_any (b : UInt8) (g n : Nat) (xs : List Int) (w : World) (hrow : w.rowIs g 9 n (wordAt xs n)) (hl : xs.length = n) (hn : n ≤ 100) (hlen : (txtB b xs).length ≤ 1400) :
    Calls Tryd.prog 36 #[.slice (some ⟨g, 0, none⟩) n n, .string ⟨#[b]⟩] w (GivesText w (txtB b xs) 1400) := by
  have hw : (words xs).length = n := by unfold words; rw [List.length_map, hl]
  have hj : Lib.join ((words xs).map (fun b => b.data.toList)) [b] = txtB b xs := by rw [words_bytes]; rfl
  have hs : (⟨#[b]⟩ : ByteArray).data.toList = [b] := rfl
  have H := Tryd.strings_Join g 0 n (words xs) ⟨#[b]⟩ w ?_ hrow.lt (by omega) (by omega) (by rw [hs, hj]; omega)
  · rw [hw, hs, hj] at H
    exact H.mono fun _ _ ⟨he, hb⟩ => ⟨_, he, rfl, hlen, hb⟩
  · intro j x hx
    unfold words at hx
    rw [List.getElem?_map] at hx
    rcases hv : xs[j]? with _ | v
    · rw [hv] at hx; cases hx
    · rw [hv] at hx
      injection hx with hx
      subst hx
      have hj' : j < n := by
        obtain ⟨h, _⟩ := List.getElem?_eq_some_iff.1 hv
        omega
      have := hrow.cell hj'
      unfold wordAt at this
      rw [if_pos hj', List.getD_eq_getElem?_getD, hv] at this
      simpa using this

theorem txt_len {xs : List Int} (h : allIn 0 1000000000000 xs = true) (k : Nat) (hk : k ≤ xs.length) : (txtL (xs.take k)).length ≤ 14 * k := by
  induction k with
  | zero => exact Nat.le_refl 0
  | succ k ih =>
    have hv : xs[k]? = some xs[k] := List.getElem?_eq_getElem (by omega)
    obtain ⟨v0, v1⟩ := allIn_at h hv
    have hd := digits_13 (n := xs[k].toNat) (by omega)
    by_cases hk0 : 0 < k
    · rw [txt_next hv v0 hk0, List.length_append, List.length_append]
      have := ih (by omega)
      simp only [List.length_cons, List.length_nil]; omega
    · obtain rfl : k = 0 := by omega
      rw [txt_first hv v0]; omega

theorem Tryd.info9' : (Tryd.prog.info? 9).map (fun i => (i.zero, i.size, i.bytes)) = some (some (.string ByteArray.empty), 1, 16) := by kernel_rfl

set_option maxHeartbeats 1000000 in
theorem joinNumbers_any (b : UInt8) (A : Option Addr) (n c : Nat) (xs : List Int) (w : World) (h : Ints w w.heap.size A n xs) (hn : n ≤ 100) (hall : allIn 0 1000000000000 xs = true) (hlen : (txtB b xs).length ≤ 1400) (htab : Lib.TabBelow Tryd.prog w.heap.size w "internal/strconv.uint64pow10" .u64 Lib.pow10Tab) :
    Calls Tryd.prog 57 #[.slice A n c, .string ⟨#[b]⟩] w (GivesText w (txtB b xs) 1400) := by
  have HL := Lib.hid h.len
  have HT := Lib.hid htab
  have HA := Lib.hid hall
  have HH := Lib.hid hlen
  clear htab hall hlen
  have hmk := run_make_row' (P := Tryd.prog) 63 9 (.string ByteArray.empty) 16 Tryd.underlying63 Tryd.info9' rfl .i64 .i64 n (by omega) (by omega)
  go_enter Tryd.func57, Tryd.ntmps57
  go_wp2
  clear hmk
  go_loopw [13] (fun i wr => ∃ k : Nat, k ≤ n ∧ i = .int .i64 k ∧ wr.rowIs w.heap.size 9 n (wordAt xs k) ∧ Below w.heap.size w wr) (fun i _ => n - (intOf i).toNat)
  case atStart =>
    refine ⟨0, Nat.zero_le _, rfl, (World.rowIs_made w (.string ByteArray.empty) n 9).congr (fun i _ => by simp [wordAt]), (Below.refl _ _).alloc (Nat.le_refl _) _⟩
  case round =>
    obtain ⟨k, hk, rfl, hrow, hb⟩ := hrel
    by_cases hlt : k < n
    · obtain ⟨ad, v, rfl, hab, hv, hc⟩ := (h.below hb).at_ hlt
      obtain ⟨v0, v1⟩ := allIn_at HA.out hv
      obtain ⟨V, rfl⟩ := Int.eq_ofNat_of_zero_le v0
      have HV := Lib.hid hv
      clear hv
      have HR := Lib.hid hrow
      have HB := Lib.hid hb
      clear hrow hb
      go_wp2_with fail
      refine (fmt_any V (by omega) _ (tab_on HT.out HB.out)).mono ?_
      rintro e w1 ⟨rfl, hb1⟩
      have hrow1 := HR.out.of_block (w' := w1) (hb1.block _ HR.out.lt)
      have hst := hrow1.cell hlt
      have hfz := hrow1.frozen k
      have hc1 : w1.cell? (ad.add k) = some (.int .i64 V) := (hb1.cell (by rw [block_of_add]; have := HB.out.size; omega)).trans hc
      have HR1 := Lib.hid hrow1
      have HB1 := Lib.hid (HB.out.trans (hb1.mono HB.out.size))
      clear hrow1 hb1
      go_wp2
      go_roundw
      case rel => exact ⟨k + 1, by omega, by go_num, (HR1.out.set k (.string (wd V))).congr (fun j _ => word_set HV.out j), HB1.out.setCell (by simp) _⟩
      case measure => simp [intOf]; omega
    · have HK := Lib.hid (show k = n by omega)
      have hrow' : wr.rowIs w.heap.size 9 n (wordAt xs n) := by rw [← HK.out] at hrow ⊢; exact hrow
      clear hrow
      go_wp2_with fail
      refine (join_any b _ _ xs _ hrow' HL.out hn HH.out).mono ?_
      rintro e w1 ⟨t, rfl, ht, hm, hb1⟩
      go_wp2
      go_ret
      exact ⟨t, rfl, ht, hm, hb.trans (hb1.mono hb.size)⟩

end Go.Proofs.YtgbicepneonkfaaDoor
