/- The model's LeastKeysFor. -/
import Derived.Test.YtidjnnooeepklaaTabC
namespace Go.Proofs.Ytidjnnooeepklaa
open Go Go.RowKit

/-- does one of some keys open a door -/
def opD (T : List (List Int)) (ks : List Int) (d : Int) : Bool := ks.any fun k => decide ((getR T k.toNat).getD d.toNat 0 = 1)
theorem opB_D (T : List (List Int)) (ks ds : List Int) : opB T ks ds = ds.all (opD T ks) := rfl
theorem any_step {α : Type} {xs : List α} {k : Nat} {v : α} {p : α → Bool} (hv : xs[k]? = some v) : (xs.take (k + 1)).any p = ((xs.take k).any p || p v) := by
  obtain ⟨hl, e⟩ := List.getElem?_eq_some_iff.1 hv
  rw [List.take_succ_eq_append_getElem hl, List.any_append, e]; simp
theorem all_step {α : Type} {xs : List α} {k : Nat} {v : α} {p : α → Bool} (hv : xs[k]? = some v) : (xs.take (k + 1)).all p = ((xs.take k).all p && p v) := by
  obtain ⟨hl, e⟩ := List.getElem?_eq_some_iff.1 hv
  rw [List.take_succ_eq_append_getElem hl, List.all_append, e]; simp
theorem all_no {α : Type} {xs : List α} {k : Nat} {v : α} {p : α → Bool} (hv : xs[k]? = some v) (h : p v = false) : xs.all p = false := by
  rw [List.all_eq_false]
  exact ⟨v, List.mem_of_getElem? hv, by simp [h]⟩

set_option maxRecDepth 100000 in
set_option maxHeartbeats 4000000 in
theorem l11Open_any (V : Option Addr) (n c : Nat) (T : List (List Int)) (A : Option Addr) (q ca : Nat) (ks : List Int) (B : Option Addr) (r cb m : Nat) (ds : List Int) (w : World)
    (h : Sets w w.heap.size V n T) (hT : tabB T = true) (hm : colT T = m) (hx : Ints w w.heap.size A q ks) (hy : Ints w w.heap.size B r ds) (hk : ∀ x ∈ ks, 0 ≤ x ∧ x < n) (hd : ∀ x ∈ ds, 0 ≤ x ∧ x < m) (hq : q ≤ 1048576) (hr : r ≤ 1048576) :
    Calls Try.prog 100 #[.slice V n c, .slice A q ca, .slice B r cb] w fun e w' => e = .returned (.bool (opB T ks ds)) ∧ Below w.heap.size w w' := by
  have H := Lib.hid h
  have HB := Lib.hid hT
  have HM := Lib.hid hm
  have X := Lib.hid hx
  have Y := Lib.hid hy
  have HK := Lib.hid hk
  have HD := Lib.hid hd
  have LX := Lib.hid hx.len
  have LY := Lib.hid hy.len
  clear h hT hm hx hy hk hd
  go_enter Try.func100, Try.ntmps100
  go_wp2
  go_loopw [7] (fun i wr => ∃ j : Nat, j ≤ r ∧ i = .int .i64 j ∧ Hid ((ds.take j).all (opD T ks) = true) ∧ Hid (Below w.heap.size w wr)) (fun i _ => r - (intOf i).toNat)
  case atStart => exact ⟨0, Nat.zero_le _, rfl, Lib.hid rfl, Lib.hid (Below.refl _ _)⟩
  case round =>
    obtain ⟨j, hj, rfl, hall, HW⟩ := hrel
    by_cases hlt : j < r
    · obtain ⟨bd, d, rfl, hbb, hdv, hdc⟩ := Y.out.at_ hlt
      have hd2 := HD.out d (List.mem_of_getElem? hdv)
      obtain ⟨D, rfl⟩ := Int.eq_ofNat_of_zero_le hd2.1
      have hDm : D < m := by omega
      have HDV := Lib.hid hdv
      have HDC := Lib.hid hdc
      have HBB := Lib.hid hbb
      have i0 : (0 : Int) ≤ (j : Int) := by omega
      have i1 : (j : Int) < (r : Int) := by omega
      have d0 : (0 : Int) ≤ (D : Int) := by omega
      have d1 : (D : Int) < (m : Int) := by omega
      clear hdv hd2 hdc hbb
      go_wp2
      go_loopw [8, 9] (fun y x wr => ∃ (k : Nat) (b : Bool), k ≤ q ∧ x = .int .i64 k ∧ y = .bool b ∧ Hid (opD T (ks.take k) (D : Int) = b) ∧ Hid (Below w.heap.size w wr)) (fun _ x _ => q - (intOf x).toNat)
      case atStart => exact ⟨0, false, Nat.zero_le _, rfl, rfl, Lib.hid rfl, HW⟩
      case round =>
        obtain ⟨k, b, hkq, rfl, rfl, hb, HW2⟩ := hrel
        clear HW
        by_cases hlk : k < q
        · obtain ⟨ad, v, rfl, hab, hv, hc⟩ := (X.out.on HW2.out).at_ hlk
          have hv2 := HK.out v (List.mem_of_getElem? hv)
          obtain ⟨K, rfl⟩ := Int.eq_ofNat_of_zero_le hv2.1
          have hKn : K < n := by omega
          have HST : Hid (opD T (ks.take (k + 1)) (D : Int) = (b || decide ((getR T K).getD D 0 = 1))) := Lib.hid (by
            rw [← hb.out]; unfold opD; rw [any_step hv, Int.toNat_natCast, Int.toNat_natCast])
          have hcd := (HW2.out.cell (p := bd.add j) (by rw [block_of_add]; exact HBB.out)).trans HDC.out
          have k0 : (0 : Int) ≤ (k : Int) := by omega
          have k1 : (k : Int) < (q : Int) := by omega
          clear hv hv2 hab
          cases b
          · obtain ⟨td, A2, c2, rfl, htb, _, htc, hti, _, _⟩ := tab_at (H.out.on HW2.out) HB.out HM.out hKn
            obtain ⟨ed, rfl, heb, _, hec⟩ := ints_at hti hDm
            have K0 : (0 : Int) ≤ (K : Int) := by omega
            have K1 : (K : Int) < (n : Int) := by omega
            clear htb hti heb
            generalize (getR T K).getD D 0 = e at *
            by_cases he : e = 1
            · subst he
              go_wp2
              go_quiet (fail)
              go_wp2
              go_roundw
              case rel => exact ⟨k + 1, true, by omega, by go_num, rfl, Lib.hid (by rw [HST.out]; rfl), Lib.hid (below_drewN HW2.out _)⟩
              case measure => simp [intOf]; omega
            · have t1 : (e == 1) = false := by simpa using he
              have HE := Lib.hid he
              clear he
              go_wp2
              go_quiet (fail)
              go_wp2
              go_roundw
              case rel => exact ⟨k + 1, false, by omega, by go_num, rfl, Lib.hid (by rw [HST.out, decide_eq_false HE.out]; rfl), Lib.hid (below_drewN HW2.out _)⟩
              case measure => simp [intOf]; omega
          · clear hcd
            go_wp2
            go_quiet (fail)
            go_wp2
            go_roundw
            case rel => exact ⟨k + 1, true, by omega, by go_num, rfl, Lib.hid (by rw [HST.out]; rfl), Lib.hid (below_drewN HW2.out _)⟩
            case measure => simp [intOf]; omega
        · have HOB : Hid (opD T ks (D : Int) = b) := Lib.hid (by
            have := hb.out
            rwa [List.take_of_length_le (by rw [LX.out]; omega)] at this)
          cases b
          · have HE := Lib.hid (all_no HDV.out HOB.out)
            go_wp2
            go_ret
            exact ⟨ret_bool (by rw [opB_D, HE.out]), HW2.out⟩
          · have HE : Hid ((ds.take (j + 1)).all (opD T ks) = true) := Lib.hid (by rw [all_step HDV.out, hall.out, HOB.out]; rfl)
            go_wp2
            go_roundw
            case rel => exact ⟨j + 1, by omega, by go_num, HE, HW2⟩
            case measure => simp [intOf]; omega
    · have HE : Hid (ds.all (opD T ks) = true) := Lib.hid (by
        have := hall.out
        rwa [List.take_of_length_le (by rw [LY.out]; omega)] at this)
      go_wp2
      go_ret
      exact ⟨ret_bool (by rw [opB_D, HE.out]), HW.out⟩

end Go.Proofs.Ytidjnnooeepklaa
