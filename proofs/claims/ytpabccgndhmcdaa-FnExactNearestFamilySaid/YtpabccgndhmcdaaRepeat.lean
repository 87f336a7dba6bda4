/- slices.Repeat at one number: contract. -/
import Derived.Test.YtpabccgndhmcdaaNearS
import Derived.Test.YtpabccgndhmcdaaShelfS
import Derived.Laws.CopyOwn
import Derived.Laws.OwnMore
import Derived.Deep.RegionHeld3
import Derived.Deep.Cut
namespace Go.Proofs.Ytpabccgndhmcdaa
open Go.RowKit

/-- a row of s numbers of which the first j are v -/
def repL (v : Int) (j s : Nat) : List Value := List.replicate j (.int .i64 v) ++ List.replicate (s - j) (.int .i64 0)
theorem repL_len (v : Int) {j s : Nat} (h : j ≤ s) : (repL v j s).length = s := by simp [repL]; omega
theorem repL_splice (v : Int) {j m s : Nat} (_ : j + m ≤ s) : splice (repL v j s) j (List.replicate m (.int .i64 v)) = repL v (j + m) s := by
  have e1 : (repL v j s).take j = List.replicate j (.int .i64 v) := by unfold repL; rw [List.take_append_of_le_length (by simp)]; simp
  have e2 : (repL v j s).drop (j + m) = List.replicate (s - (j + m)) (.int .i64 0) := by
    unfold repL
    rw [List.drop_append, List.drop_of_length_le (by simp)]
    simp
    omega
  unfold splice
  rw [List.length_replicate, e1, e2]
  unfold repL
  rw [← List.append_assoc, List.replicate_append_replicate]
theorem repL_one (v : Int) {s : Nat} (h : 1 ≤ s) : splice (repL v 0 s) 0 [.int .i64 v] = repL v 1 s := by
  have := repL_splice v (j := 0) (m := 1) (s := s) (by omega)
  simpa using this
theorem repL_full (v : Int) (s : Nat) : repL v s s = List.replicate s (.int .i64 v) := by simp [repL]
theorem made_rep (v : Int) (s : Nat) : madeCells #[.int .i64 0] s = (repL v 0 s).toArray := by
  rw [← Array.toArray_toList (xs := madeCells #[.int .i64 0] s), toList_madeCells_one]
  simp [repL]
theorem repL_at {v : Int} {j s i : Nat} (hi : i < j) : (repL v j s)[i]? = some (.int .i64 v) := by
  unfold repL
  rw [List.getElem?_append_left (by simp; omega)]
  simp [hi]
theorem rep_one (m : Nat) (v : Int) : ∀ u ∈ List.replicate m (Value.int .i64 v), u.oneCell' = true := by
  intro u hu
  rw [(List.mem_replicate.1 hu).2]; rfl
theorem mul_one_any (s : Nat) (h : s ≤ 5) (w : World) : Calls Try.prog 82 #[.int .u64 1, .int .u64 (s : Int)] w fun e w' => e = .returned (.tuple #[.int .u64 0, .int .u64 (s : Int)]) ∧ w = w' := by
  refine (Try.bits_Mul 1 s (by omega) (by omega) w).mono ?_
  rintro e w' ⟨rfl, rfl⟩
  refine ⟨?_, rfl⟩
  rw [Nat.one_mul, Nat.div_eq_of_lt (by omega), Nat.mod_eq_of_lt (by omega)]
  rfl

set_option maxHeartbeats 1000000 in
theorem repeat_any (v : Int) (s : Nat) (h0 : 1 ≤ s) (h1 : s ≤ 5) (ad : Addr) (c : Nat) (w : World) (hx : w.cell? ad = some (.int .i64 v)) :
    Calls Try.prog 79 #[.slice (some ad) 1 c, .int .i64 (s : Int)] w fun e w' => e = .returned (.slice (some ⟨w.heap.size, 0, none⟩) s s) ∧ w'.heap[w.heap.size]? = some (.cells (repL v s s).toArray 2 (0, 0)) ∧ Below w.heap.size w w' := by
  have hmk := run_make_row' (P := Try.prog) 24 2 (.int .i64 0) 8 Try.underlying24 Try.info2' rfl .i64 .i64 s (by omega) (by omega)
  have hlt : ad.block < w.heap.size := World.block_lt_of_cell? _ _ hx
  have HM := Lib.hid (made_rep v s)
  have hs0 : ¬ ((s : Int) < 0) := by omega
  go_enter Try.func79, Try.ntmps79
  go_wp2_with fail
  refine (mul_one_any s h1 _).mono ?_
  rintro e w' ⟨rfl, rfl⟩
  have B1 := Lib.hid (below_box w (.cells (madeCells #[.int .i64 0] s) 2))
  have G1 : Hid ((w.alloc (.cells (madeCells #[.int .i64 0] s) 2)).heap[w.heap.size]? = some (.cells (repL v 0 s).toArray 2 (0, 0))) := Lib.hid (by rw [← HM.out]; exact heap_alloc_new w _)
  have hx1 : (w.alloc (.cells (madeCells #[.int .i64 0] s) 2)).cell? ad = some (.int .i64 v) := (B1.out.cell hlt).trans hx
  have hmin : [Value.int .i64 v].length = Nat.min 1 s := (Nat.min_eq_left h0).symm
  have i0 : (0 : Int) ≤ (s : Int) := by omega
  have i1 : ¬ (9223372036854775807 : Int) < (s : Int) := by omega
  clear hx hs0 HM
  have hsrc : ∀ (j : Nat) (u : Value), [Value.int .i64 v][j]? = some u → (w.alloc (.cells (madeCells #[.int .i64 0] s) 2)).cell? (ad.add j) = some u := by
    intro j u hj
    rcases j with _ | j
    · have : Value.int .i64 v = u := by simpa using hj
      rw [← this]
      simpa [Addr.add] using hx1
    · simp at hj
  have HS := Lib.hid hsrc
  clear hsrc hx1
  go_wp2_with (with_reducible refine wpList_copy_splice rfl _ _ 24 24 rfl 2 Try.underlying24 (by kernel_rfl) (some ⟨w.heap.size, 0, none⟩) (some ad) s s 1 c rfl rfl w.heap.size 0 (repL v 0 s) 2 G1.out [.int .i64 v] hmin (fun _ => ⟨rfl, ad, rfl, HS.out⟩) (by rw [repL_len v (by omega)]; simpa using h0) (by simp [Value.oneCell']) w.heap.size w B1.out (Nat.le_refl _) ?_; intro w2 G2 B2)
  rw [repL_one v h0] at G2
  have HB2 := Lib.hid B2
  clear B1 G1 HS B2 hmin hmk
  go_loopw [8] (fun i wr => ∃ j : Nat, 1 ≤ j ∧ j ≤ s ∧ i = .int .i64 j ∧ Hid (wr.heap[w.heap.size]? = some (.cells (repL v j s).toArray 2 (0, 0))) ∧ Hid (Below w.heap.size w wr)) (fun i _ => s - (intOf i).toNat)
  case atStart => exact ⟨1, Nat.le_refl _, h0, rfl, G2, HB2⟩
  case round =>
    obtain ⟨j, hj1, hjs, rfl, HG, HB⟩ := hrel
    clear G2 HB2
    by_cases hlt : j < s
    · obtain ⟨m, hm⟩ : ∃ m, m = min j (s - j) := ⟨_, rfl⟩
      have hm1 : 1 ≤ m := by omega
      have hms : j + m ≤ s := by omega
      have hw : IntKind.i64.wrap ((j : Int) + ((min j (s - j) : Nat) : Int)) = ((j + m : Nat) : Int) := by rw [← hm, IntKind.wrap_i64]; omega
      have hsj' : ¬ s = j := by omega
      have HSJ := Lib.hid hsj'
      clear hsj'
      have hjs2 : (j : Int) ≤ (s : Int) := by omega
      have hmn : (List.replicate m (Value.int .i64 v)).length = Nat.min j (s - j) := by rw [List.length_replicate]; exact hm
      have hsrc : ∀ (i : Nat) (u : Value), (List.replicate m (Value.int .i64 v))[i]? = some u → wr.cell? ((⟨w.heap.size, 0, none⟩ : Addr).add i) = some u := by
        intro i u hi
        obtain ⟨hi', hu⟩ := List.getElem?_eq_some_iff.1 hi
        have hij : i < j := by rw [List.length_replicate] at hi'; omega
        have e : (⟨w.heap.size, 0, none⟩ : Addr).add i = ⟨w.heap.size, i, none⟩ := by rcases i with _ | i <;> simp [Addr.add]
        rw [e]
        have h2 := repL_at (v := v) (s := s) hij
        rw [List.getElem_replicate] at hu
        simp [World.cell?, HG.out, h2, hu]
      have HS := Lib.hid hsrc
      clear hsrc
      go_wp2
      have HG' : Hid ((wr.drewN 1).heap[w.heap.size]? = some (.cells (repL v j s).toArray 2 (0, 0))) := HG
      have HB' := Lib.hid (below_drewN HB.out 1)
      go_region_law (refine step_copy_splice (by rfl) (.tmp 41) (.tmp 44) 24 24 (by rfl) 2 Try.underlying24 (by kernel_rfl) (if s = j then some ⟨w.heap.size, 0, none⟩ else some ⟨w.heap.size, j, none⟩) (some ⟨w.heap.size, 0, none⟩) (s - j) (s - j) j s (by simp [Act.eval, Act.put]) (by simp [Act.eval, Act.put]) w.heap.size j (repL v j s) 2 HG'.out (List.replicate m (.int .i64 v)) hmn (fun _ => ⟨if_neg HSJ.out, _, rfl, HS.out⟩) (by rw [repL_len v (by omega), List.length_replicate]; exact hms) (rep_one m v) w.heap.size w HB'.out (Nat.le_refl _) ?_; intro w3 G3 B3)
      rw [repL_splice v hms] at G3
      have HB3 := Lib.hid B3
      clear HG HB HG' HB' HS B3
      go_wp2
      go_roundw
      case rel => exact ⟨j + m, by omega, hms, by omega, G3⟩
      case measure => simp [intOf]; omega
    · have HE : Hid (wr.heap[w.heap.size]? = some (.cells (repL v s s).toArray 2 (0, 0))) := by
        obtain rfl : j = s := by omega
        exact HG
      go_wp2
      go_ret
      exact ⟨rfl, HE.out, HB.out⟩

end Go.Proofs.Ytpabccgndhmcdaa
