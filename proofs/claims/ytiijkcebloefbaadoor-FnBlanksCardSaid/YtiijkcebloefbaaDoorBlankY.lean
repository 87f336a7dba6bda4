/- What the program's walk over the blanks hands out. -/
import Derived.Test.YtiijkcebloefbaaDoorBlanks
import Derived.Test.YtiijkcebloefbaaDoorChoice2
namespace Go.Proofs.YtiijkcebloefbaaDoor
open Go Go.RowKit
attribute [local go_sem] Oper.semAt_some

/-- the first k blanks that fit -/
def exT (xs : List Int) (f : Nat → Bool) (k : Nat) : List Nat := (List.range k).filter (fun b => metB xs f (b : Int))
theorem exT_yes {xs : List Int} {f : Nat → Bool} {k : Nat} (h : metB xs f (k : Int) = true) : exT xs f (k + 1) = exT xs f k ++ [k] := by
  unfold exT; rw [List.range_succ, List.filter_append]; simp [h]
theorem exT_no {xs : List Int} {f : Nat → Bool} {k : Nat} (h : metB xs f (k : Int) = false) : exT xs f (k + 1) = exT xs f k := by
  unfold exT; rw [List.range_succ, List.filter_append]; simp [h]
theorem exT_ahead (xs : List Int) (f : Nat → Bool) (k : Nat) : ∀ d, ∃ R, exT xs f (k + d) = exT xs f k ++ R
  | 0 => ⟨[], by simp⟩
  | d + 1 => by
    obtain ⟨R, hR⟩ := exT_ahead xs f k d
    rcases h : metB xs f ((k + d : Nat) : Int) with _ | _
    · exact ⟨R, by rw [← Nat.add_assoc, exT_no h, hR]⟩
    · exact ⟨R ++ [k + d], by rw [← Nat.add_assoc, exT_yes h, hR, List.append_assoc]⟩
theorem exT_len (xs : List Int) (f : Nat → Bool) (k : Nat) : (exT xs f k).length ≤ k := by
  unfold exT
  exact Nat.le_trans (List.length_filter_le _ _) (by simp)
theorem exT_is {xs ys : List Int} {n : Nat} (hl : xs.length = n) (hr : riseB (n : Int) ys = true) (k : Nat) : exI xs ys k = (exT xs (fOf ys) k).map (fun (b : Nat) => (b : Int)) := by
  unfold exI exT
  rw [List.filter_congr (fun b _ => met_is hl hr b)]
def AheadN (T q : List Nat) : Prop := ∃ R, T = q ++ R
def PartN (T pre : List Nat) : Prop := ∃ p x R, T = p ++ x :: R ∧ pre = p ++ [x]

set_option maxRecDepth 100000 in
set_option maxHeartbeats 4000000 in
theorem blanks_yield (g n : Nat) (xs : List Int) (f : Nat → Bool) (hl : xs.length = n) (hn : n ≤ 8) (hall : allIn 0 4095 xs = true) (q : Nat) (w : World) :
    Yields16 Fence.wide q Tryd.prog 25 #[.agg #[.slice (some ⟨g, 0, none⟩) n n, .bool (f 0), .bool (f 1), .bool (f 2), .bool (f 3), .bool (f 4), .bool (f 5), .bool (f 6), .bool (f 7)]] #[] (fun W => Ways16 W g n xs) (AheadN (exT xs f 4096)) (fun l => l = exT xs f 4096) (PartN (exT xs f 4096)) w := by
  intro l J Jx W hW hJ hK hY h0
  have HL := Lib.hid hl
  have HA := Lib.hid hall
  have HJ := Lib.hid hJ
  have HK := Lib.hid hK
  have HY := Lib.hid hY
  have hx := WBox.new W 47 (some ⟨g, 0, none⟩) n n f
  have b0 := (Below.refl W.heap.size W).alloc (Nat.le_refl _) (.cells #[.slice (some ⟨g, 0, none⟩) n n, .bool (f 0), .bool (f 1), .bool (f 2), .bool (f 3), .bool (f 4), .bool (f 5), .bool (f 6), .bool (f 7)] 47)
  have hj0 := hJ _ _ _ h0 b0
  have HS : Hid (W.heap.size ≤ (W.alloc (.cells #[.slice (some ⟨g, 0, none⟩) n n, .bool (f 0), .bool (f 1), .bool (f 2), .bool (f 3), .bool (f 4), .bool (f 5), .bool (f 6), .bool (f 7)] 47)).heap.size) := Lib.hid b0.size
  clear hW hJ hK hY h0 hl hall b0
  refine callsIn_of_wp Tryd.func25 rfl trivial ?_ rfl
  simp only [Tryd.ntmps25, List.size_toArray, List.length_cons, List.length_nil, Nat.reduceAdd, Nat.reduceSub, Array.replicate_succ, Array.replicate_zero, List.push_toArray, List.append_toArray, List.nil_append, List.cons_append]
  gi_wp2
  gi_loopw [5] (fun i wr => ∃ k : Nat, k ≤ 4096 ∧ i = .int .u16 k ∧ Hid (J (exT xs f k) wr) ∧ Hid (WBox wr W.heap.size 47 (some ⟨g, 0, none⟩) n n f) ∧ W.heap.size ≤ wr.heap.size) (fun i _ => 4096 - (intOf i).toNat)
  case atStart => exact ⟨0, Nat.zero_le _, rfl, Lib.hid hj0, Lib.hid hx, HS.out⟩
  case round =>
    clear hx hj0 HS
    obtain ⟨k, hk, rfl, hj, hbox, hsz⟩ := hrel
    by_cases hlt : k < 4096
    · have k0 : (0 : Int) ≤ (k : Int) := by omega
      have k1 : (k : Int) ≤ 4095 := by omega
      have k2 : (k : Int) < 4096 := by omega
      obtain ⟨c0, c1, c2, c3, c4, c5, c6, c7, c8⟩ := hbox.out.cells
      have hrow := HK.out _ _ hj.out
      rcases hm : metB xs f (k : Int) with _ | _
      · have HE := Lib.hid (exT_no hm)
        gi_wp2_with fail
        refine ⟨trivial, (fun h => by cases h), (callsIn_wide.2 (isMetBy_any g n xs f (k : Int) _ hrow HL.out hn k0 k1 HA.out)).mono ?_⟩
        rw [hm]
        rintro e w1 ⟨rfl, b1⟩
        have J1 := Lib.hid (HJ.out _ _ _ hj.out (b1.mono hsz))
        have X1 := Lib.hid (hbox.out.on b1)
        have s1 := b1.size
        have hs1 : W.heap.size ≤ w1.heap.size := by omega
        clear c0 c1 c2 c3 c4 c5 c6 c7 c8 hrow
        gi_wp2
        refine ⟨(fun _ h => by cases h), ?_⟩
        gi_wp2
        go_roundw
        case rel => exact ⟨k + 1, by omega, by go_num, by rw [HE.out]; exact J1, X1, hs1⟩
        case measure => simp [intOf]; omega
      · have HE := Lib.hid (exT_yes hm)
        gi_wp2_with fail
        refine ⟨trivial, (fun h => by cases h), (callsIn_wide.2 (isMetBy_any g n xs f (k : Int) _ hrow HL.out hn k0 k1 HA.out)).mono ?_⟩
        rw [hm]
        rintro e w1 ⟨rfl, b1⟩
        have J1 := HJ.out _ _ _ hj.out (b1.mono hsz)
        have X1 := Lib.hid (hbox.out.on b1)
        have s1 := b1.size
        have hs1 : W.heap.size ≤ w1.heap.size := by omega
        clear c0 c1 c2 c3 c4 c5 c6 c7 c8 hrow
        obtain ⟨R, hR⟩ := exT_ahead xs f (k + 1) (4096 - (k + 1))
        rw [show k + 1 + (4096 - (k + 1)) = 4096 by omega, HE.out] at hR
        have HRR := Lib.hid hR
        obtain ⟨fn, tmps, assign, body, hy, hRR⟩ := HY.out (exT xs f k) k (.int .u16 (k : Int)) w1 J1 ⟨R, hR⟩ rfl
        clear hR
        gi_wp2
        refine ⟨(fun h => by cases h), hRR.mono ?_⟩
        rintro e W3 (⟨rfl, hJ3, hk3⟩ | ⟨rfl, hJx3, hk3⟩)
        · have J3 := Lib.hid hJ3
          have X3 := Lib.hid (X1.out.above hk3 (Nat.le_refl _))
          have s3 := hk3.size
          have hs3 : W.heap.size ≤ W3.heap.size := by omega
          clear hJ3 hk3
          gi_wp2
          go_roundw
          case rel => exact ⟨k + 1, by omega, by go_num, by rw [HE.out]; exact J3, X3, hs3⟩
          case measure => simp [intOf]; omega
        · have J3 := Lib.hid hJx3
          clear hJx3 hk3
          gi_wp2
          refine bodyPost_ret (results_none rfl _ _ _) rfl ?_
          exact ⟨⟨_, rfl⟩, .inr ⟨_, ⟨_, _, R, by rw [HRR.out, List.append_assoc]; rfl, rfl⟩, J3.out⟩⟩
    · obtain rfl : k = 4096 := by omega
      gi_wp2
      go_end0
      exact ⟨⟨_, rfl⟩, .inl ⟨_, rfl, hj.out⟩⟩

end Go.Proofs.YtiijkcebloefbaaDoor
