/- choiceOf of the program, where it finds a choice. -/
import Derived.Test.YtiijkcebloefbaaDoorChoice
namespace Go.Proofs.YtiijkcebloefbaaDoor
open Go Go.RowKit

set_option maxRecDepth 100000 in
set_option maxHeartbeats 8000000 in
theorem choiceOf_yes (A : Option Addr) (n c : Nat) (xs : List Int) (A' : Option Addr) (n' c' : Nat) (ys : List Int) (w : World) (h : Ints w w.heap.size A n xs) (hn : n ≤ 1048576) (h' : Ints w w.heap.size A' n' ys) (hn' : n' ≤ 1048576) (hx : exOk xs ys = true) :
    Calls Tryd.prog 24 #[.slice A n c, .slice A' n' c'] w (Chosen w n xs ys) := by
  have HL := Lib.hid h.len
  have HL' := Lib.hid h'.len
  have hq : waysB xs = true := by unfold exOk at hx; rw [Bool.and_eq_true] at hx; exact hx.1
  have hr : riseB (n : Int) ys = true := by unfold exOk at hx; rw [Bool.and_eq_true, HL.out] at hx; exact hx.2
  have HA := Lib.hid (waysB_true hq).2
  have HR := Lib.hid (rise_facts hr).1
  have hn8 : n ≤ 8 := by have := (waysB_true hq).1; rw [HL.out] at this; exact this
  have hz := WBox.zero w 47 none 0 0 rfl
  have b0 := (Below.refl w.heap.size w).alloc (Nat.le_refl _) (.cells #[.slice none 0 0, .bool false, .bool false, .bool false, .bool false, .bool false, .bool false, .bool false, .bool false] 47)
  have h1 := h.on b0
  have h1' := h'.on b0
  have hmk := run_make_row' (P := Tryd.prog) 44 52 (.int .u16 0) 2 Tryd.underlying44 Tryd.info52' rfl .i64 .i64 n (by omega) (by omega)
  go_enter Tryd.func24, Tryd.ntmps24
  go_wp2_with (first | (go_at_call 28; refine (areWays_any _ _ _ xs _ h1 hn).mono ?_; rintro e w' ⟨rfl, rfl⟩) | (go_at_call 34; refine (isRising_any _ _ _ ys _ _ h1' hn').mono ?_; rw [hr]; rintro e w' ⟨rfl, rfl⟩))
  clear hmk
  go_loopw [28] (fun i wr => ∃ k : Nat, k ≤ n ∧ i = .int .i64 k ∧ wr.rowIs (w.heap.size + 1) 52 n (way16 xs k) ∧ Hid (WBox wr (w.heap.size + 1 + 1) 47 (some ⟨w.heap.size + 1, 0, none⟩) n n (fun _ => false)) ∧ Hid (WBox wr w.heap.size 47 none 0 0 (fun _ => false)) ∧ Hid (Below w.heap.size w wr)) (fun i _ => n - (intOf i).toNat)
  case atStart =>
    refine ⟨0, Nat.zero_le _, rfl, ?_, Lib.hid ?_, Lib.hid ?_, Lib.hid ?_⟩
    · have hm := World.rowIs_made (w.alloc (.cells #[.slice none 0 0, .bool false, .bool false, .bool false, .bool false, .bool false, .bool false, .bool false, .bool false] 47)) (.int .u16 0) n 52
      rw [World.size_alloc] at hm
      exact World.rowIs.of_block (hm.congr (fun i _ => by simp [way16])) (Below.heap_alloc _ _ _ (by simp))
    · exact WBox.zero _ _ _ _ _ (by simp)
    · exact (hz.alloc _).alloc _
    · exact (b0.alloc (by simp) _).alloc (by simp; omega) _
  case round =>
    obtain ⟨k, hk, rfl, hrow, hbox, hres, hb⟩ := hrel
    by_cases hlt : k < n
    · obtain ⟨ad, v, rfl, hab, hv, hc⟩ := (h.on hb.out).at_ hlt
      obtain ⟨v0, v1⟩ := allIn_at HA.out hv
      have hst := hrow.cell hlt
      have hfz := hrow.frozen k
      have hcl := hbox.out.cells.1
      have HV := Lib.hid hv
      have HROW := Lib.hid hrow
      have s16 : IntKind.u16.wrap v = v := by rw [IntKind.wrap_u16]; omega
      clear hv hrow
      go_wp2
      clear s16
      go_roundw
      case rel =>
        refine ⟨k + 1, by omega, by go_num, (HROW.out.set k (.int .u16 v)).congr (fun j _ => way16_set HV.out j), Lib.hid ?_, Lib.hid ?_, Lib.hid ?_⟩
        · exact hbox.out.grown (grown_set (p := ⟨w.heap.size + 1, k, none⟩) (World.grownBy.refl wr (some (w.heap.size + 1))) rfl _) (by intro e; injection e with e; omega)
        · exact hres.out.grown (grown_set (p := ⟨w.heap.size + 1, k, none⟩) (World.grownBy.refl wr (some (w.heap.size + 1))) rfl _) (by intro e; injection e with e; omega)
        · exact hb.out.setCell (p := ⟨w.heap.size + 1, k, none⟩) (by simp) _
      case measure => simp [intOf]; omega
    · have hrow' : Ways16 wr (w.heap.size + 1) n xs := hrow.congr (fun i hi => by unfold way16; rw [if_pos (by omega)])
      have HROW := Lib.hid hrow'
      clear hrow hrow'
      go_wp2
      go_loopw [42] (fun i wr => ∃ k : Nat, k ≤ n' ∧ i = .int .i64 k ∧ Hid (Ways16 wr (w.heap.size + 1) n xs) ∧ Hid (WBox wr (w.heap.size + 1 + 1) 47 (some ⟨w.heap.size + 1, 0, none⟩) n n (fAt ys k)) ∧ Hid (WBox wr w.heap.size 47 none 0 0 (fun _ => false)) ∧ Hid (Below w.heap.size w wr)) (fun i _ => n' - (intOf i).toNat)
      case atStart => exact ⟨0, Nat.zero_le _, rfl, HROW, by rw [fAt_zero]; exact hbox, hres, hb⟩
      case round =>
        clear hbox hres hb HROW
        obtain ⟨k, hk, rfl, hrow, hbox, hres, hb⟩ := hrel
        by_cases hlt' : k < n'
        · obtain ⟨ad, v, rfl, hab, hv, hc⟩ := (h'.on hb.out).at_ hlt'
          obtain ⟨v0, v1⟩ := HR.out v (List.mem_of_getElem? hv)
          obtain ⟨i, rfl⟩ : ∃ i : Nat, v = (i : Int) := ⟨v.toNat, by omega⟩
          have i8 : i < 8 := by omega
          have i8' : (i : Int) < 8 := by omega
          have HF := Lib.hid (fAt_step hv)
          have hst := hbox.out.bit i8
          have hfz := hbox.out.thawed (1 + i)
          clear hv
          go_wp2
          go_roundw
          case rel =>
            refine ⟨k + 1, by omega, by go_num, Lib.hid ?_, Lib.hid ?_, Lib.hid ?_, Lib.hid ?_⟩
            · exact World.rowIs.of_block hrow.out (Below.heap_setCell wr ⟨w.heap.size + 1 + 1, 1 + i, none⟩ _ _ (by simp))
            · rw [HF.out]; exact hbox.out.put i8
            · exact hres.out.grown (grown_set (p := ⟨w.heap.size + 1 + 1, 1 + i, none⟩) (World.grownBy.refl wr (some (w.heap.size + 1 + 1))) rfl _) (by intro e; injection e with e; omega)
            · exact hb.out.setCell (p := ⟨w.heap.size + 1 + 1, 1 + i, none⟩) (by simp; omega) _
          case measure => simp [intOf]; omega
        · have HE : Hid (fAt ys k = fOf ys) := Lib.hid (fAt_end (by rw [HL'.out]; omega))
          rw [HE.out] at hbox
          obtain ⟨c0, c1, c2, c3, c4, c5, c6, c7, c8⟩ := hbox.out.cells
          obtain ⟨d0, d1, d2, d3, d4, d5, d6, d7, d8⟩ := hres.out.cells
          obtain ⟨f0, f1, f2, f3, f4, f5, f6, f7, f8⟩ := hres.out.thaws
          go_wp2
          have hp := hres.out.put9 (A := some ⟨w.heap.size + 1, 0, none⟩) (n := n) (c := n) (f := fOf ys)
          have hbp := below_put9 hb.out (Nat.le_refl _) (some ⟨w.heap.size + 1, 0, none⟩) n n (fOf ys)
          have hrp := row_put9 hrow.out (by omega : w.heap.size + 1 ≠ w.heap.size) (some ⟨w.heap.size + 1, 0, none⟩) n n (fOf ys)
          unfold put9 at hp hbp hrp
          generalize hW : World.setCell _ (Addr.mk _ 8 none) _ = Z at *
          clear hW
          obtain ⟨r0, r1, r2, r3, r4, r5, r6, r7, r8⟩ := hp.cells
          exact bodyPost_ret (v := .tuple #[.agg #[.slice (some ⟨w.heap.size + 1, 0, none⟩) n n, .bool (fOf ys 0), .bool (fOf ys 1), .bool (fOf ys 2), .bool (fOf ys 3), .bool (fOf ys 4), .bool (fOf ys 5), .bool (fOf ys 6), .bool (fOf ys 7)], .bool true]) (by simp [results, Tryd.results24, go_sem, r0, r1, r2, r3, r4, r5, r6, r7, r8]) rfl ⟨w.heap.size + 1, rfl, by omega, hrp, hbp⟩

end Go.Proofs.YtiijkcebloefbaaDoor
