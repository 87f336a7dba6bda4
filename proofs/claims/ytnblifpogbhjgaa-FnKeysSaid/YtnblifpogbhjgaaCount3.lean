/- CountKeys of the program: the tables one after the other. -/
import Derived.Test.YtnblifpogbhjgaaCount2
namespace Go.Proofs.Ytnblifpogbhjgaa
open Go.RowKit

theorem index_at (cs : Array Value) (u : Nat) (n : Int) (w : World) (hu : u < 256) (h : cs[u]? = some (.int .i64 n)) :
    (Instr.index 84 (.agg cs) (.int .i64 (u : Int))).run Try.prog w = .ok (.int .i64 n) w := by
  have h1 : (0 : Int) ≤ (u : Int) ∧ (u : Int) < ((256 : Nat) : Int) := by omega
  simp [Instr.index, run_underlying Try.underlying84, asIntOf, h1, go_sem]
  rw [if_pos hu, h]; rfl
/-- the cells of one run -/
def runCells (B : Nat → Int) (l r : Nat) : List Value := (List.range 256).map (fun u => Value.int .i64 (B (idx l r u)))
theorem runCells_len (B : Nat → Int) (l r : Nat) : (runCells B l r).length = 256 := by simp [runCells]
theorem runCells_at (B : Nat → Int) (l r u : Nat) (hu : u < 256) : (runCells B l r).toArray[u]? = some (.int .i64 (B (idx l r u))) := by
  unfold runCells
  rw [List.getElem?_toArray, List.getElem?_map, List.getElem?_range hu]; rfl
theorem Table.cellsAt {w : World} {g : Nat} {B : Nat → Int} (h : Table w g B) (l r : Nat) (hl : l < 8) (hr : r < 7) : w.rangeAt g (l * 1792 + r * 256) (runCells B l r) := by
  intro j v hv
  have hj : j < 256 := by have := (List.getElem?_eq_some_iff.1 hv).1; rwa [runCells_len] at this
  unfold runCells at hv
  rw [List.getElem?_map, List.getElem?_range hj] at hv
  have hv' : Value.int .i64 (B (idx l r j)) = v := by simpa using hv
  have := h.cell (idx_lt hl hr hj)
  rw [← hv']
  exact this

/-- what has been carried on: all of the states before cut l, of it r runs, and of the next run the first u sets -/
def Part (m : Mk) (B : Nat → Int) (l r u : Nat) (F : Nat → Int) : Prop :=
  NonNeg F ∧ ∀ W, totS F W m.M.toNat m.D.toNat = totS B (nextW m W) m.M.toNat l + colS B (nextW m W) l r + rowS B (nextW m W) l (r + 1) u
theorem part_zero (m : Mk) (B : Nat → Int) : Part m B 0 0 0 (fun _ => 0) := by
  refine ⟨fun _ => Int.le_refl _, fun W => ?_⟩
  show totS (fun _ => 0) W _ _ = 0
  unfold totS colS rowS
  simp only [Int.zero_mul, sumN_zero]
theorem part_run {m : Mk} {B F : Nat → Int} {l r : Nat} (h : Part m B l r 256 F) : Part m B l (r + 1) 0 F := by
  refine ⟨h.1, fun W => ?_⟩
  rw [h.2 W]
  show _ = _ + (colS B (nextW m W) l r + rowS B (nextW m W) l (r + 1) 256) + 0
  omega
theorem part_cut {m : Mk} {B F : Nat → Int} {l : Nat} (h : Part m B l m.M.toNat 0 F) : Part m B (l + 1) 0 0 F := by
  refine ⟨h.1, fun W => ?_⟩
  rw [h.2 W]
  show totS B (nextW m W) m.M.toNat l + colS B (nextW m W) l m.M.toNat + 0 = (totS B (nextW m W) m.M.toNat l + colS B (nextW m W) l m.M.toNat) + 0 + 0
  omega
theorem part_skip {m : Mk} {B F : Nat → Int} {l r u : Nat} (h : Part m B l r u F) (h0 : B (idx l (r + 1) u) = 0) : Part m B l r (u + 1) F := by
  refine ⟨h.1, fun W => ?_⟩
  rw [h.2 W]
  show _ = _ + _ + (rowS B (nextW m W) l (r + 1) u + B (idx l (r + 1) u) * nextW m W l (r + 1) u)
  rw [h0, Int.zero_mul]; omega
theorem part_add {m : Mk} {B F : Nat → Int} {l r u : Nat} (h : Part m B l r u F) (h0 : 0 ≤ B (idx l (r + 1) u)) (hM0 : 0 ≤ m.M) (hM : m.M ≤ 6) (hu : u < 256) (hD : m.D ≤ 8) : Part m B l r (u + 1) (addsN m F l (r + 1) u (B (idx l (r + 1) u)) m.D.toNat) := by
  refine ⟨adds_nonneg h.1 h0 _, fun W => ?_⟩
  rw [totS_adds hM0 hM hu hD m.D.toNat (Nat.le_refl _), h.2 W]
  show _ = _ + _ + (rowS B (nextW m W) l (r + 1) u + B (idx l (r + 1) u) * nextW m W l (r + 1) u)
  unfold nextW
  omega
theorem part_bound {m : Mk} {B F : Nat → Int} {l r u : Nat} (h : Part m B l r u F) (hB : NonNeg B) (hs : totS B one3 m.M.toNat m.D.toNat ≤ 100000) (hD : m.D ≤ 8) (hl : l < m.D.toNat) (hr : r < m.M.toNat) (hu : u ≤ 256) : totS F one3 m.M.toNat m.D.toNat ≤ 1000000 := by
  rw [h.2 one3]
  have h1 := part_le (W := nextW m one3) (M := m.M.toNat) (D := m.D.toNat) hB (fun l r u => (next_one hD l r u).1) hl hr hu
  have h2 := tot_next hB hD
  omega

set_option maxRecDepth 100000 in
set_option maxHeartbeats 8000000 in
theorem countLonger_any (m : Mk) (hm : m.ok = true) (g : Nat) (B : Nat → Int) (w : World) (hT : Table w g B) (hB : NonNeg B) (hs : totS B one3 m.M.toNat m.D.toNat ≤ 100000) :
    Calls Try.prog 53 #[.agg #[.int .i64 m.C, .int .i64 m.D, .int .i64 m.S, .int .i64 m.M, .int .i64 m.L], .pointer (some ⟨g, 0, none⟩)] w
      (Tabled w m (fun W => totS B (nextW m W) m.M.toNat m.D.toNat)) := by
  obtain ⟨m1, m2, m3, m4, m5, m6, m7, m8, m9, m10, m11⟩ := Mk.ok_true hm
  have HM := Lib.hid hm
  have HNB := Lib.hid hB
  have HSB := Lib.hid hs
  have HTB := Lib.hid hT
  have hgw := hT.lt
  clear hm hB hs hT
  have b0 := (Below.refl w.heap.size w).alloc (Nat.le_refl _) (.cells #[.int .i64 m.C, .int .i64 m.D, .int .i64 m.S, .int .i64 m.M, .int .i64 m.L] 25)
  have HX0 := Lib.hid ((Boxed.new w 25 m).alloc (.cells Try.zeroCells87 87))
  have HT0 : Hid (Table ((w.alloc (.cells #[.int .i64 m.C, .int .i64 m.D, .int .i64 m.S, .int .i64 m.M, .int .i64 m.L] 25)).alloc (.cells Try.zeroCells87 87)) (w.heap.size + 1) (fun _ => 0)) := Lib.hid (by
    have := table_new (w.alloc (.cells #[.int .i64 m.C, .int .i64 m.D, .int .i64 m.S, .int .i64 m.M, .int .i64 m.L] 25))
    rwa [show (w.alloc (.cells #[.int .i64 m.C, .int .i64 m.D, .int .i64 m.S, .int .i64 m.M, .int .i64 m.L] 25)).heap.size = w.heap.size + 1 by simp] at this)
  have B0 := Lib.hid (b0.alloc (by simp) (.cells Try.zeroCells87 87))
  clear b0
  go_enter Try.func53, Try.ntmps53
  go_wp2
  go_loopw [13] (fun z wr => ∃ (l : Nat) (F : Nat → Int), z = .int .i64 l ∧ (l : Int) ≤ m.D ∧ Hid (Part m B l 0 0 F) ∧ Hid (Table wr (w.heap.size + 1) F) ∧ Hid (Boxed wr w.heap.size 25 m) ∧ Below w.heap.size w wr) (fun z _ => 9 - (intOf z).toNat)
  case atStart => exact ⟨0, _, rfl, by omega, Lib.hid (part_zero m B), HT0, HX0, B0.out⟩
  case round =>
    obtain ⟨l, F0, rfl, hlD, hpart0, htab0, hbox0, hb0⟩ := hrel
    by_cases hl : (l : Int) < m.D
    · obtain ⟨w1, rfl⟩ : ∃ w1 : World, w1 = wr := ⟨_, rfl⟩
      have HB0' := Lib.hid hb0
      clear hb0
      go_wp2
      go_loopw [7] (fun z wr => ∃ (r : Nat) (F : Nat → Int), z = .int .i64 ((r : Int) + 1) ∧ (r : Int) ≤ m.M ∧ Hid (Part m B l r 0 F) ∧ Hid (Table wr (w.heap.size + 1) F) ∧ Hid (Boxed wr w.heap.size 25 m) ∧ Below w.heap.size w wr) (fun z _ => 9 - (intOf z).toNat)
      case atStart => exact ⟨0, F0, by go_num, by omega, hpart0, htab0, hbox0, HB0'.out⟩
      case round =>
        clear hpart0 htab0 hbox0 HB0'
        obtain ⟨r, F1, rfl, hrM, hpart1, htab1, hbox1, hb1⟩ := hrel
        obtain ⟨q0, q1, q2, q3, q4⟩ := hbox1.out.cells
        by_cases hr : (r : Int) < m.M
        · obtain ⟨w2, rfl⟩ : ∃ w2 : World, w2 = wr := ⟨_, rfl⟩
          have hle : (r : Int) + 1 ≤ m.M := by omega
          have HR := Lib.hid (Table.cellsAt (HTB.out.on hb1) l (r + 1) (by omega) (by omega))
          have hlen := runCells_len B l (r + 1)
          have hix := fun (u : Nat) (hu : u < 256) (W : World) => index_at (runCells B l (r + 1)).toArray u _ W hu (runCells_at B l (r + 1) u hu)
          generalize runCells B l (r + 1) = cs at HR hlen hix
          have HIX := Lib.hid hix
          have HLEN := Lib.hid hlen
          have HB1 := Lib.hid hb1
          clear hix hlen hb1
          have i0 : (0 : Int) ≤ (l : Int) := by omega
          have i1 : (l : Int) < 8 := by omega
          have i2 : (0 : Int) ≤ (r : Int) + 1 := by omega
          have i3 : (r : Int) + 1 < 7 := by omega
          go_wp2_with fail
          refine wp_load_mid 84 _ rfl g (l * 1792 + (r + 1) * 256) rfl cs _ HR.out Try.underlying84 rfl (by rw [HLEN.out]; kernel_rfl) ?_
          go_wp2
          clear HR i2 i3
          go_loopw [29] (fun z wr => ∃ (u : Nat) (F : Nat → Int), z = .int .i64 (u : Int) ∧ u ≤ 256 ∧ Hid (Part m B l r u F) ∧ Hid (Table wr (w.heap.size + 1) F) ∧ Hid (Boxed wr w.heap.size 25 m) ∧ Below w.heap.size w wr) (fun z _ => 257 - (intOf z).toNat)
          case atStart => exact ⟨0, F1, rfl, by omega, hpart1, htab1, hbox1, HB1.out⟩
          case round =>
            clear hpart1 htab1 hbox1 HB1 q0 q1 q2 q3 q4
            obtain ⟨u, F, rfl, hu, hpart, htab, hbox, hb⟩ := hrel
            obtain ⟨q0, q1, q2, q3, q4⟩ := hbox.out.cells
            by_cases hlt : u < 256
            · obtain ⟨w3, rfl⟩ : ∃ w3 : World, w3 = wr := ⟨_, rfl⟩
              have hix := HIX.out u hlt
              have HB3 := Lib.hid hb
              have ult : (u : Int) < 256 := by omega
              clear hb
              have HX0 := HNB.out (idx l (r + 1) u)
              have HX1 := entry_le (F := B) (M := m.M.toNat) (D := m.D.toNat) (l := l) (r := r + 1) (u := u) HNB.out (by omega) (by omega) (by omega) hlt
              have HX2 : B (idx l (r + 1) u) ≤ 100000 := by have := HSB.out; omega
              by_cases hpos : 0 < B (idx l (r + 1) u)
              · have HPA := Lib.hid (part_add hpart.out HX0 (by omega) (by omega) hlt (by omega))
                have HPB := Lib.hid (part_bound (u := u) hpart.out HNB.out HSB.out (by omega) (by omega) (by omega) (by omega))
                clear HX1
                generalize B (idx l (r + 1) u) = x at *
                go_wp2_with fail
                refine (addLonger_any m HM.out (w.heap.size + 1) F l (r + 1) u x _ htab.out hl (by omega) (by omega) hlt HX0 (by omega) hpart.out.1 HPB.out).mono ?_
                rintro e w4 ⟨rfl, ht4, g4⟩
                have HT4 := Lib.hid ht4
                have HX4 := Lib.hid (hbox.out.grown g4 (by intro e; injection e with e; omega))
                have HB4 := Lib.hid (below_grown HB3.out g4 (by intro q hq; injection hq with hq; omega))
                clear ht4 g4
                go_wp2
                go_roundw
                case rel => exact ⟨u + 1, _, by go_num, by omega, HPA, HT4, HX4, HB4.out⟩
                case measure => simp [intOf]; omega
              · have HPA := Lib.hid (part_skip hpart.out (by omega))
                clear HX1
                generalize B (idx l (r + 1) u) = x at *
                go_wp2
                go_roundw
                case rel => exact ⟨u + 1, F, by go_num, by omega, HPA, htab, hbox, HB3.out⟩
                case measure => simp [intOf]; omega
            · have hu2 : u = 256 := by omega
              subst hu2
              have HPR := Lib.hid (part_run hpart.out)
              have HBB := Lib.hid hb
              clear hb hpart
              go_wp2
              go_roundw
              case rel => exact ⟨r + 1, F, by go_num, by omega, HPR, htab, hbox, HBB.out⟩
              case measure => simp [intOf]; omega
        · have hr2 : r = m.M.toNat := by omega
          have HPC := Lib.hid (part_cut (hr2 ▸ hpart1.out))
          have HBB := Lib.hid hb1
          clear hb1 hpart1
          go_wp2
          go_roundw
          case rel => exact ⟨l + 1, F1, by go_num, by omega, HPC, htab1, hbox1, HBB.out⟩
          case measure => simp [intOf]; omega
    · have hl2 : l = m.D.toNat := by omega
      have HF : Hid (∀ W, totS F0 W m.M.toNat m.D.toNat = totS B (nextW m W) m.M.toNat m.D.toNat) := Lib.hid (by
        intro W
        rw [hpart0.out.2 W, hl2]
        show _ + 0 + 0 = _
        omega)
      have HN := Lib.hid hpart0.out.1
      clear hpart0
      go_wp2
      go_ret
      exact ⟨w.heap.size + 1, F0, rfl, by omega, htab0.out, HN.out, HF.out, hb0⟩

end Go.Proofs.Ytnblifpogbhjgaa
