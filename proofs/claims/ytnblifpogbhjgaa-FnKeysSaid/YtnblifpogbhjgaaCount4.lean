/- CountKeys of the program: the sum over the last table. -/
import Derived.Test.YtnblifpogbhjgaaCount3
namespace Go.Proofs.Ytnblifpogbhjgaa
open Go.RowKit

theorem least_range (m : Mk) (l r u : Nat) : 0 ≤ leastW m l r u ∧ leastW m l r u ≤ one3 l r u := by
  unfold leastW one3; split <;> omega
/-- what has been added up -/
def sofar (m : Mk) (F : Nat → Int) (l r u : Nat) : Int := totS F (leastW m) m.M.toNat l + colS F (leastW m) l r + rowS F (leastW m) l (r + 1) u
theorem sofar_range {m : Mk} {F : Nat → Int} {l r u : Nat} (h : NonNeg F) (hs : totS F one3 m.M.toNat m.D.toNat ≤ 300000) (hl : l < m.D.toNat) (hr : r < m.M.toNat) (hu : u ≤ 256) : 0 ≤ sofar m F l r u ∧ sofar m F l r u ≤ 300000 := by
  have h0 : ∀ l r u, 0 ≤ leastW m l r u := fun l r u => (least_range m l r u).1
  have h1 := part_le (W := leastW m) (M := m.M.toNat) (D := m.D.toNat) h h0 hl hr hu
  have h2 := totS_le (W := leastW m) (W' := one3) (M := m.M.toNat) (n := m.D.toNat) h (fun l r u => (least_range m l r u).2)
  have h3 := totS_nonneg (M := m.M.toNat) (n := l) h h0
  have h4 := colS_nonneg (l := l) (n := r) h h0
  have h5 := rowS_nonneg (l := l) (r := r + 1) (n := u) h h0
  unfold sofar; omega
theorem sofar_yes {m : Mk} {F : Nat → Int} {l r u : Nat} (h : m.L ≤ (pc u : Int)) : sofar m F l r (u + 1) = sofar m F l r u + F (idx l (r + 1) u) := by
  unfold sofar
  show _ + _ + (rowS F (leastW m) l (r + 1) u + F (idx l (r + 1) u) * leastW m l (r + 1) u) = _
  rw [show leastW m l (r + 1) u = 1 by unfold leastW; rw [if_pos h]]; omega
theorem sofar_no {m : Mk} {F : Nat → Int} {l r u : Nat} (h : ¬ m.L ≤ (pc u : Int)) : sofar m F l r (u + 1) = sofar m F l r u := by
  unfold sofar
  show _ + _ + (rowS F (leastW m) l (r + 1) u + F (idx l (r + 1) u) * leastW m l (r + 1) u) = _
  rw [show leastW m l (r + 1) u = 0 by unfold leastW; rw [if_neg h]]; omega
theorem sofar_run (m : Mk) (F : Nat → Int) (l r : Nat) : sofar m F l (r + 1) 0 = sofar m F l r 256 := by
  unfold sofar
  show _ + (colS F (leastW m) l r + rowS F (leastW m) l (r + 1) 256) + 0 = _
  omega
theorem sofar_cut (m : Mk) (F : Nat → Int) (l : Nat) : sofar m F (l + 1) 0 0 = sofar m F l m.M.toNat 0 := by
  unfold sofar
  show (totS F (leastW m) m.M.toNat l + colS F (leastW m) l m.M.toNat) + 0 + 0 = _ + _ + 0
  omega
theorem sofar_zero (m : Mk) (F : Nat → Int) : sofar m F 0 0 0 = 0 := rfl
theorem sofar_end (m : Mk) (F : Nat → Int) : sofar m F m.D.toNat 0 0 = totS F (leastW m) m.M.toNat m.D.toNat := by
  unfold sofar
  show _ + 0 + 0 = _
  omega

set_option maxRecDepth 100000 in
set_option maxHeartbeats 8000000 in
theorem countWithLeast_any (m : Mk) (hm : m.ok = true) (g : Nat) (B : Nat → Int) (w : World) (hT : Table w g B) (hB : NonNeg B) (hs : totS B one3 m.M.toNat m.D.toNat ≤ 300000) :
    Calls Try.prog 54 #[.agg #[.int .i64 m.C, .int .i64 m.D, .int .i64 m.S, .int .i64 m.M, .int .i64 m.L], .pointer (some ⟨g, 0, none⟩)] w
      fun e w' => e = .returned (.int .i64 (totS B (leastW m) m.M.toNat m.D.toNat)) ∧ Below w.heap.size w w' := by
  obtain ⟨m1, m2, m3, m4, m5, m6, m7, m8, m9, m10, m11⟩ := Mk.ok_true hm
  have HNB := Lib.hid hB
  have HSB := Lib.hid hs
  have HTB := Lib.hid hT
  have hgw := hT.lt
  clear hm hB hs hT
  have B0 := Lib.hid ((Below.refl w.heap.size w).alloc (Nat.le_refl _) (.cells #[.int .i64 m.C, .int .i64 m.D, .int .i64 m.S, .int .i64 m.M, .int .i64 m.L] 25))
  have HX0 := Lib.hid (Boxed.new w 25 m)
  go_enter Try.func54, Try.ntmps54
  go_wp2
  go_loopw [5, 12] (fun s z wr => ∃ (l : Nat) (t : Int), s = .int .i64 t ∧ z = .int .i64 l ∧ (l : Int) ≤ m.D ∧ Hid (t = sofar m B l 0 0) ∧ Hid (Boxed wr w.heap.size 25 m) ∧ Below w.heap.size w wr) (fun _ z _ => 9 - (intOf z).toNat)
  case atStart => exact ⟨0, 0, rfl, rfl, by omega, Lib.hid (sofar_zero m B).symm, HX0, B0.out⟩
  case round =>
    clear HX0 B0
    obtain ⟨l, t0, rfl, rfl, hlD, HS0, hbox0, hb0⟩ := hrel
    obtain ⟨q0, q1, q2, q3, q4⟩ := hbox0.out.cells
    by_cases hl : (l : Int) < m.D
    · obtain ⟨w1, rfl⟩ : ∃ w1 : World, w1 = wr := ⟨_, rfl⟩
      have HB0' := Lib.hid hb0
      clear hb0
      go_wp2
      clear q0 q1 q2 q3 q4
      go_loopw [5, 7] (fun s z wr => ∃ (r : Nat) (t : Int), s = .int .i64 t ∧ z = .int .i64 ((r : Int) + 1) ∧ (r : Int) ≤ m.M ∧ Hid (t = sofar m B l r 0) ∧ Hid (Boxed wr w.heap.size 25 m) ∧ Below w.heap.size w wr) (fun _ z _ => 9 - (intOf z).toNat)
      case atStart => exact ⟨0, t0, rfl, by go_num, by omega, HS0, hbox0, HB0'.out⟩
      case round =>
        clear HS0 hbox0 HB0'
        obtain ⟨r, t1, rfl, rfl, hrM, HS1, hbox1, hb1⟩ := hrel
        obtain ⟨q0, q1, q2, q3, q4⟩ := hbox1.out.cells
        by_cases hr : (r : Int) < m.M
        · obtain ⟨w2, rfl⟩ : ∃ w2 : World, w2 = wr := ⟨_, rfl⟩
          have hle : (r : Int) + 1 ≤ m.M := by omega
          have HR := Lib.hid (Table.cellsAt (HTB.out.on hb1) l (r + 1) (by omega) (by omega))
          have hlen := runCells_len B l (r + 1)
          have hix := fun (u : Nat) (hu : u < 256) (W : World) => index_at (runCells B l (r + 1)).toArray u _ W hu (runCells_at B l (r + 1) u hu)
          generalize runCells B l (r + 1) = cs at HR hlen hix
          have HIX := Lib.hid hix
          have HLEN := Lib.hid hlen
          have HB1 := Lib.hid hb1
          clear hix hlen hb1
          have i0 : (0 : Int) ≤ (l : Int) := by omega
          have i1 : (l : Int) < 8 := by omega
          have i2 : (0 : Int) ≤ (r : Int) + 1 := by omega
          have i3 : (r : Int) + 1 < 7 := by omega
          go_wp2_with fail
          refine wp_load_mid 84 _ rfl g (l * 1792 + (r + 1) * 256) rfl cs _ HR.out Try.underlying84 rfl (by rw [HLEN.out]; kernel_rfl) ?_
          go_wp2
          clear HR i2 i3 q0 q1 q2 q3 q4
          go_loopw [5, 28] (fun s z wr => ∃ (u : Nat) (t : Int), s = .int .i64 t ∧ z = .int .i64 (u : Int) ∧ u ≤ 256 ∧ Hid (t = sofar m B l r u) ∧ Hid (Boxed wr w.heap.size 25 m) ∧ Below w.heap.size w wr) (fun _ z _ => 257 - (intOf z).toNat)
          case atStart => exact ⟨0, t1, rfl, rfl, by omega, HS1, hbox1, HB1.out⟩
          case round =>
            clear HS1 hbox1 HB1
            obtain ⟨u, t, rfl, rfl, hu, HS, hbox, hb⟩ := hrel
            obtain ⟨q0, q1, q2, q3, q4⟩ := hbox.out.cells
            by_cases hlt : u < 256
            · obtain ⟨w3, rfl⟩ : ∃ w3 : World, w3 = wr := ⟨_, rfl⟩
              have hix := HIX.out u hlt
              have HB3 := Lib.hid hb
              have ult : (u : Int) < 256 := by omega
              clear hb
              have HX0 := HNB.out (idx l (r + 1) u)
              have HX1 := entry_le (F := B) (M := m.M.toNat) (D := m.D.toNat) (l := l) (r := r + 1) (u := u) HNB.out (by omega) (by omega) (by omega) hlt
              have HX2 : B (idx l (r + 1) u) ≤ 300000 := by have := HSB.out; omega
              have hts := sofar_range (u := u) HNB.out HSB.out (l := l) (r := r) (by omega) (by omega) hu
              rw [← HS.out] at hts
              obtain ⟨ht0, ht1⟩ := hts
              clear HX1
              by_cases hle2 : m.L ≤ (pc u : Int)
              · have HN : Hid (t + B (idx l (r + 1) u) = sofar m B l r (u + 1)) := Lib.hid (by rw [sofar_yes hle2, HS.out])
                clear HS
                generalize B (idx l (r + 1) u) = x at *
                go_wp2
                go_quiet ((go_at_call 79; exact quiet_left (onesCount_any u hlt _)))
                go_wp2
                go_roundw
                case rel => exact ⟨u + 1, t + x, by go_num, by go_num, by omega, HN, Lib.hid (hbox.out.drewN _), below_drewN HB3.out _⟩
                case measure => simp [intOf]; omega
              · have HN : Hid (t = sofar m B l r (u + 1)) := Lib.hid (by rw [sofar_no hle2, HS.out])
                clear HS
                generalize B (idx l (r + 1) u) = x at *
                go_wp2
                go_quiet ((go_at_call 79; exact quiet_left (onesCount_any u hlt _)))
                go_wp2
                go_roundw
                case rel => exact ⟨u + 1, t, by go_num, by go_num, by omega, HN, Lib.hid (hbox.out.drewN _), below_drewN HB3.out _⟩
                case measure => simp [intOf]; omega
            · have hu2 : u = 256 := by omega
              subst hu2
              have HN : Hid (t = sofar m B l (r + 1) 0) := Lib.hid (by rw [sofar_run, HS.out])
              have HBB := Lib.hid hb
              clear hb HS
              go_wp2
              go_roundw
              case rel => exact ⟨r + 1, t, rfl, by go_num, by omega, HN, hbox, HBB.out⟩
              case measure => simp [intOf]; omega
        · have hr2 : r = m.M.toNat := by omega
          have HN : Hid (t1 = sofar m B (l + 1) 0 0) := Lib.hid (by rw [sofar_cut, ← hr2, HS1.out])
          have HBB := Lib.hid hb1
          clear hb1 HS1
          go_wp2
          go_roundw
          case rel => exact ⟨l + 1, t1, rfl, by go_num, by omega, HN, hbox1, HBB.out⟩
          case measure => simp [intOf]; omega
    · have HN : Hid (t0 = totS B (leastW m) m.M.toNat m.D.toNat) := Lib.hid (by rw [HS0.out, ← sofar_end, show l = m.D.toNat by omega])
      clear HS0
      have HBB := Lib.hid hb0
      clear hb0
      go_wp2
      go_ret
      exact ⟨ret_int HN.out, HBB.out⟩

end Go.Proofs.Ytnblifpogbhjgaa
