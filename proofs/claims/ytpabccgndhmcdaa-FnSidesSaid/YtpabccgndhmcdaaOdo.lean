/- slices.Repeat at one number: contract. The closure that counts the side codes: contracts of the function that makes it and of its own calls. -/
import Derived.Test.YtpabccgndhmcdaaKeyS
import Derived.Test.YtpabccgndhmcdaaShelfS
import Derived.Laws.CopyOwn
import Derived.Laws.OwnMore
import Derived.Deep.RegionHeld3
import Derived.Deep.Cut
import Derived.Test.YtpabccgndhmcdaaCodeN
namespace Go.Proofs.Ytpabccgndhmcdaa
open Go.RowKit

/-- a row of s numbers of which the first j are v -/
def repL (v : Int) (j s : Nat) : List Value := List.replicate j (.int .i64 v) ++ List.replicate (s - j) (.int .i64 0)
theorem repL_len (v : Int) {j s : Nat} (h : j ≤ s) : (repL v j s).length = s := by simp [repL]; omega
theorem repL_splice (v : Int) {j m s : Nat} (_ : j + m ≤ s) : splice (repL v j s) j (List.replicate m (.int .i64 v)) = repL v (j + m) s := by
  have e1 : (repL v j s).take j = List.replicate j (.int .i64 v) := by unfold repL; rw [List.take_append_of_le_length (by simp)]; simp
  have e2 : (repL v j s).drop (j + m) = List.replicate (s - (j + m)) (.int .i64 0) := by
    unfold repL
    rw [List.drop_append, List.drop_of_length_le (by simp)]
    simp
    omega
  unfold splice
  rw [List.length_replicate, e1, e2]
  unfold repL
  rw [← List.append_assoc, List.replicate_append_replicate]
theorem repL_one (v : Int) {s : Nat} (h : 1 ≤ s) : splice (repL v 0 s) 0 [.int .i64 v] = repL v 1 s := by
  have := repL_splice v (j := 0) (m := 1) (s := s) (by omega)
  simpa using this
theorem repL_full (v : Int) (s : Nat) : repL v s s = List.replicate s (.int .i64 v) := by simp [repL]
theorem made_rep (v : Int) (s : Nat) : madeCells #[.int .i64 0] s = (repL v 0 s).toArray := by
  rw [← Array.toArray_toList (xs := madeCells #[.int .i64 0] s), toList_madeCells_one]
  simp [repL]
theorem repL_at {v : Int} {j s i : Nat} (hi : i < j) : (repL v j s)[i]? = some (.int .i64 v) := by
  unfold repL
  rw [List.getElem?_append_left (by simp; omega)]
  simp [hi]
theorem rep_one (m : Nat) (v : Int) : ∀ u ∈ List.replicate m (Value.int .i64 v), u.oneCell' = true := by
  intro u hu
  rw [(List.mem_replicate.1 hu).2]; rfl
theorem mul_one_any (s : Nat) (h : s ≤ 5) (w : World) : Calls Try.prog 82 #[.int .u64 1, .int .u64 (s : Int)] w fun e w' => e = .returned (.tuple #[.int .u64 0, .int .u64 (s : Int)]) ∧ w = w' := by
  refine (Try.bits_Mul 1 s (by omega) (by omega) w).mono ?_
  rintro e w' ⟨rfl, rfl⟩
  refine ⟨?_, rfl⟩
  rw [Nat.one_mul, Nat.div_eq_of_lt (by omega), Nat.mod_eq_of_lt (by omega)]
  rfl

set_option maxHeartbeats 1000000 in
theorem repeat_any (v : Int) (s : Nat) (h0 : 1 ≤ s) (h1 : s ≤ 5) (ad : Addr) (c : Nat) (w : World) (hx : w.cell? ad = some (.int .i64 v)) :
    Calls Try.prog 79 #[.slice (some ad) 1 c, .int .i64 (s : Int)] w fun e w' => e = .returned (.slice (some ⟨w.heap.size, 0, none⟩) s s) ∧ w'.heap[w.heap.size]? = some (.cells (repL v s s).toArray 2 (0, 0)) ∧ Below w.heap.size w w' := by
  have hmk := run_make_row' (P := Try.prog) 24 2 (.int .i64 0) 8 Try.underlying24 Try.info2' rfl .i64 .i64 s (by omega) (by omega)
  have hlt : ad.block < w.heap.size := World.block_lt_of_cell? _ _ hx
  have HM := Lib.hid (made_rep v s)
  have hs0 : ¬ ((s : Int) < 0) := by omega
  go_enter Try.func79, Try.ntmps79
  go_wp2_with fail
  refine (mul_one_any s h1 _).mono ?_
  rintro e w' ⟨rfl, rfl⟩
  have B1 := Lib.hid (below_box w (.cells (madeCells #[.int .i64 0] s) 2))
  have G1 : Hid ((w.alloc (.cells (madeCells #[.int .i64 0] s) 2)).heap[w.heap.size]? = some (.cells (repL v 0 s).toArray 2 (0, 0))) := Lib.hid (by rw [← HM.out]; exact heap_alloc_new w _)
  have hx1 : (w.alloc (.cells (madeCells #[.int .i64 0] s) 2)).cell? ad = some (.int .i64 v) := (B1.out.cell hlt).trans hx
  have hmin : [Value.int .i64 v].length = Nat.min 1 s := (Nat.min_eq_left h0).symm
  have i0 : (0 : Int) ≤ (s : Int) := by omega
  have i1 : ¬ (9223372036854775807 : Int) < (s : Int) := by omega
  clear hx hs0 HM
  have hsrc : ∀ (j : Nat) (u : Value), [Value.int .i64 v][j]? = some u → (w.alloc (.cells (madeCells #[.int .i64 0] s) 2)).cell? (ad.add j) = some u := by
    intro j u hj
    rcases j with _ | j
    · have : Value.int .i64 v = u := by simpa using hj
      rw [← this]
      simpa [Addr.add] using hx1
    · simp at hj
  have HS := Lib.hid hsrc
  clear hsrc hx1
  go_wp2_with (with_reducible refine wpList_copy_splice rfl _ _ 24 24 rfl 2 Try.underlying24 (by kernel_rfl) (some ⟨w.heap.size, 0, none⟩) (some ad) s s 1 c rfl rfl w.heap.size 0 (repL v 0 s) 2 G1.out [.int .i64 v] hmin (fun _ => ⟨rfl, ad, rfl, HS.out⟩) (by rw [repL_len v (by omega)]; simpa using h0) (by simp [Value.oneCell']) w.heap.size w B1.out (Nat.le_refl _) ?_; intro w2 G2 B2)
  rw [repL_one v h0] at G2
  have HB2 := Lib.hid B2
  clear B1 G1 HS B2 hmin hmk
  go_loopw [8] (fun i wr => ∃ j : Nat, 1 ≤ j ∧ j ≤ s ∧ i = .int .i64 j ∧ Hid (wr.heap[w.heap.size]? = some (.cells (repL v j s).toArray 2 (0, 0))) ∧ Hid (Below w.heap.size w wr)) (fun i _ => s - (intOf i).toNat)
  case atStart => exact ⟨1, Nat.le_refl _, h0, rfl, G2, HB2⟩
  case round =>
    obtain ⟨j, hj1, hjs, rfl, HG, HB⟩ := hrel
    clear G2 HB2
    by_cases hlt : j < s
    · obtain ⟨m, hm⟩ : ∃ m, m = min j (s - j) := ⟨_, rfl⟩
      have hm1 : 1 ≤ m := by omega
      have hms : j + m ≤ s := by omega
      have hw : IntKind.i64.wrap ((j : Int) + ((min j (s - j) : Nat) : Int)) = ((j + m : Nat) : Int) := by rw [← hm, IntKind.wrap_i64]; omega
      have hsj' : ¬ s = j := by omega
      have HSJ := Lib.hid hsj'
      clear hsj'
      have hjs2 : (j : Int) ≤ (s : Int) := by omega
      have hmn : (List.replicate m (Value.int .i64 v)).length = Nat.min j (s - j) := by rw [List.length_replicate]; exact hm
      have hsrc : ∀ (i : Nat) (u : Value), (List.replicate m (Value.int .i64 v))[i]? = some u → wr.cell? ((⟨w.heap.size, 0, none⟩ : Addr).add i) = some u := by
        intro i u hi
        obtain ⟨hi', hu⟩ := List.getElem?_eq_some_iff.1 hi
        have hij : i < j := by rw [List.length_replicate] at hi'; omega
        have e : (⟨w.heap.size, 0, none⟩ : Addr).add i = ⟨w.heap.size, i, none⟩ := by rcases i with _ | i <;> simp [Addr.add]
        rw [e]
        have h2 := repL_at (v := v) (s := s) hij
        rw [List.getElem_replicate] at hu
        simp [World.cell?, HG.out, h2, hu]
      have HS := Lib.hid hsrc
      clear hsrc
      go_wp2
      have HG' : Hid ((wr.drewN 1).heap[w.heap.size]? = some (.cells (repL v j s).toArray 2 (0, 0))) := HG
      have HB' := Lib.hid (below_drewN HB.out 1)
      go_region_law (refine step_copy_splice (by rfl) (.tmp 41) (.tmp 44) 24 24 (by rfl) 2 Try.underlying24 (by kernel_rfl) (if s = j then some ⟨w.heap.size, 0, none⟩ else some ⟨w.heap.size, j, none⟩) (some ⟨w.heap.size, 0, none⟩) (s - j) (s - j) j s (by simp [Act.eval, Act.put]) (by simp [Act.eval, Act.put]) w.heap.size j (repL v j s) 2 HG'.out (List.replicate m (.int .i64 v)) hmn (fun _ => ⟨if_neg HSJ.out, _, rfl, HS.out⟩) (by rw [repL_len v (by omega), List.length_replicate]; exact hms) (rep_one m v) w.heap.size w HB'.out (Nat.le_refl _) ?_; intro w3 G3 B3)
      rw [repL_splice v hms] at G3
      have HB3 := Lib.hid B3
      clear HG HB HG' HB' HS B3
      go_wp2
      go_roundw
      case rel => exact ⟨j + m, by omega, hms, by omega, G3⟩
      case measure => simp [intOf]; omega
    · have HE : Hid (wr.heap[w.heap.size]? = some (.cells (repL v s s).toArray 2 (0, 0))) := by
        obtain rfl : j = s := by omega
        exact HG
      go_wp2
      go_ret
      exact ⟨rfl, HE.out, HB.out⟩

end Go.Proofs.Ytpabccgndhmcdaa

namespace Go.Proofs.Ytpabccgndhmcdaa
open Go.RowKit

/-- the cells behind the closure: its number is k, its bases are s times v; all in blocks from lo on -/
structure Odo (w : World) (lo hi gn gb : Nat) (s : Nat) (v : Int) (k : Nat) : Prop where
  num : w.heap[gn]? = some (.cells #[.int .i64 (k : Int)] 2 (0, 0))
  bas : ∃ g, lo ≤ g ∧ g < hi ∧ g ≠ gn ∧ w.heap[gb]? = some (.cells #[.slice (some ⟨g, 0, none⟩) s s] 24 (0, 0)) ∧ w.heap[g]? = some (.cells (repL v s s).toArray 2 (0, 0))
  lon : lo ≤ gn
  lob : lo ≤ gb
  hin : gn < hi
  hib : gb < hi
  ne : gb ≠ gn
theorem Odo.lt {w : World} {lo hi gn gb s k : Nat} {v : Int} (h : Odo w lo hi gn gb s v k) : gn < w.heap.size := heapLt h.num
theorem Odo.grown {w w' : World} {lo hi gn gb s k : Nat} {v : Int} {row : Option Nat} (h : Odo w lo hi gn gb s v k) (hg : w.grownBy w' row) (hr : ∀ g, row = some g → g < lo ∨ hi ≤ g) : Odo w' lo hi gn gb s v k := by
  obtain ⟨g, g1, gh, g2, g3, g4⟩ := h.bas
  have ne : ∀ b, lo ≤ b → b < hi → some b ≠ row := fun b h1 h2 e => by have := hr b e.symm; omega
  exact ⟨(hg.block gn h.lt (ne _ h.lon h.hin)).trans h.num, ⟨g, g1, gh, g2, (hg.block gb (heapLt g3) (ne _ h.lob h.hib)).trans g3, (hg.block g (heapLt g4) (ne _ g1 gh)).trans g4⟩, h.lon, h.lob, h.hin, h.hib, h.ne⟩
theorem Odo.on {w w' : World} {lo hi gn gb s k : Nat} {v : Int} (h : Odo w lo hi gn gb s v k) (hb : Below w.heap.size w w') : Odo w' lo hi gn gb s v k := by
  obtain ⟨g, g1, gh, g2, g3, g4⟩ := h.bas
  exact ⟨(hb.block gn h.lt).trans h.num, ⟨g, g1, gh, g2, (hb.block gb (heapLt g3)).trans g3, (hb.block g (heapLt g4)).trans g4⟩, h.lon, h.lob, h.hin, h.hib, h.ne⟩
theorem Odo.aside {w : World} {lo hi gn gb s k : Nat} {v : Int} (h : Odo w lo hi gn gb s v k) {a : Addr} (ha : a.block < lo ∨ hi ≤ a.block) (u : Value) : Odo (w.setCell a u) lo hi gn gb s v k :=
  h.grown (row := some a.block) (grown_set (p := a) (World.grownBy.refl w (some a.block)) rfl u) (fun g e => by injection e with e; omega)
theorem rep_ints {w : World} {g s : Nat} {v : Int} (h : w.heap[g]? = some (.cells (repL v s s).toArray 2 (0, 0))) : Ints w w.heap.size (some ⟨g, 0, none⟩) s (List.replicate s v) := by
  refine ⟨List.length_replicate, fun _ => ⟨_, rfl, heapLt h, fun j u hj => ?_⟩⟩
  have e : (⟨g, 0, none⟩ : Addr).add j = ⟨g, j, none⟩ := by rcases j with _ | j <;> simp [Addr.add]
  obtain ⟨hj', hu⟩ := List.getElem?_eq_some_iff.1 hj
  rw [List.getElem_replicate] at hu
  have h2 := repL_at (v := v) (s := s) (j := s) (i := j) (by rw [List.length_replicate] at hj'; exact hj')
  rw [e]
  subst hu
  simp [World.cell?, h, h2]

set_option maxHeartbeats 1000000 in
theorem odometer_any (s : Nat) (v : Int) (w : World) (h1 : 1 ≤ s) (h5 : s ≤ 5) :
    Calls Try.prog 73 #[.agg #[.int .i64 (s : Int), .int .i64 v]] w
      fun e w' => ∃ gn gb, e = .returned (.func (.func 80) #[] #[.pointer (some ⟨gn, 0, none⟩), .pointer (some ⟨gb, 0, none⟩)]) ∧ Odo w' w.heap.size w'.heap.size gn gb s v 0 ∧ Below w.heap.size w w' := by
  go_enter Try.func73, Try.ntmps73
  go_wp2_with fail
  refine (repeat_any v s h1 h5 _ _ _ (by simp)).mono ?_
  rintro e w1 ⟨rfl, R1, b1⟩
  have B0 := below_box w (.cells #[.int .i64 (s : Int), .int .i64 v] 66)
  have B1 := Lib.hid (below_trans' (B0.alloc B0.size (.cells #[.int .i64 v] 2)) b1)
  have hz : ((w.alloc (.cells #[.int .i64 (s : Int), .int .i64 v] 66)).alloc (.cells #[.int .i64 v] 2)).heap.size = w.heap.size + 1 + 1 := by simp
  rw [hz] at R1
  have HR := Lib.hid R1
  have hlt := heapLt R1
  clear R1 b1 B0 hz
  have B2 := Lib.hid (B1.out.alloc B1.out.size (.cells #[.slice (some ⟨w.heap.size + 1 + 1, 0, none⟩) s s] 24))
  have B3 := Lib.hid (B2.out.alloc B2.out.size (.cells #[.int .i64 0] 2))
  have HO : Hid (Odo ((w1.alloc (.cells #[.slice (some ⟨w.heap.size + 1 + 1, 0, none⟩) s s] 24)).alloc (.cells #[.int .i64 0] 2)) w.heap.size (w1.heap.size + 1 + 1) (w1.heap.size + 1) w1.heap.size s v 0) := Lib.hid (by
    have e0 := heap_alloc_new w1 (.cells #[.slice (some ⟨w.heap.size + 1 + 1, 0, none⟩) s s] 24)
    have e1 := heap_alloc_new (w1.alloc (.cells #[.slice (some ⟨w.heap.size + 1 + 1, 0, none⟩) s s] 24)) (.cells #[.int .i64 0] 2)
    rw [World.size_alloc] at e1
    have hb := B1.out.size
    refine ⟨e1, ⟨w.heap.size + 1 + 1, by omega, by omega, by omega, (Below.heap_alloc _ _ _ (by rw [World.size_alloc]; omega)).trans e0, (Below.heap_alloc _ _ _ (by rw [World.size_alloc]; omega)).trans ((Below.heap_alloc _ _ _ hlt).trans HR.out)⟩, by omega, by omega, by omega, by omega, by omega⟩)
  clear HR B1 B2
  go_wp2
  go_ret
  exact ⟨_, _, rfl, by simpa using HO.out, B3.out⟩

/-- the closure's answer: the next code, or none -/
def curC (s : Nat) (v : Int) (k : Nat) : List Int := if (k : Int) < powC v s then codeN s v k else []
theorem cur_yes {s k : Nat} {v : Int} (h : (k : Int) < powC v s) : curC s v k = codeN s v k := by unfold curC; rw [if_pos h]
theorem cur_no {s k : Nat} {v : Int} (h : ¬ (k : Int) < powC v s) : curC s v k = [] := by unfold curC; rw [if_neg h]

/-- a side code is stored -/
def putS (w : World) (b : Nat) (xs : List Int) : World :=
  ((((w.setCell ⟨b, 0, none⟩ (.int .i64 (nth xs 0))).setCell ⟨b, 1, none⟩ (.int .i64 (nth xs 1))).setCell ⟨b, 2, none⟩ (.int .i64 (nth xs 2))).setCell ⟨b, 3, none⟩ (.int .i64 (nth xs 3))).setCell ⟨b, 4, none⟩ (.int .i64 (nth xs 4))
theorem Box5.put {w : World} {b : Nat} {ys : List Int} (h : Box5 w b ys) (xs : List Int) : Box5 (putS w b xs) b xs := by
  unfold Box5 putS at *; simp [World.setCell, Array.getElem?_modify, h]
theorem grown_put {a w : World} {row : Option Nat} (h : a.grownBy w row) {b : Nat} (hb : a.heap.size ≤ b) (xs : List Int) : a.grownBy (putS w b xs) row :=
  grown_new (grown_new (grown_new (grown_new (grown_new h (p := ⟨b, 0, none⟩) hb _) (p := ⟨b, 1, none⟩) hb _) (p := ⟨b, 2, none⟩) hb _) (p := ⟨b, 3, none⟩) hb _) (p := ⟨b, 4, none⟩) hb _
theorem put_size (w : World) (b : Nat) (xs : List Int) : (putS w b xs).heap.size = w.heap.size := by simp [putS, World.setCell]
theorem Box5.zero {w : World} {g : Nat} (h : w.heap[g]? = some (.cells #[.int .i64 0, .int .i64 0, .int .i64 0, .int .i64 0, .int .i64 0] 83 (0, 0))) : Box5 w g [] := h
theorem Box5.below' {w w' : World} {g : Nat} {xs : List Int} (h : Box5 w g xs) (hb : Below (g + 1) w w') : Box5 w' g xs := (hb.block g (by omega)).trans h
theorem splice_code {xs : List Int} (h : xs.length ≤ 5) : splice [Value.int .i64 0, .int .i64 0, .int .i64 0, .int .i64 0, .int .i64 0] 0 (intsV xs) = [.int .i64 (nth xs 0), .int .i64 (nth xs 1), .int .i64 (nth xs 2), .int .i64 (nth xs 3), .int .i64 (nth xs 4)] := by
  rcases xs with _ | ⟨a, _ | ⟨b, _ | ⟨c, _ | ⟨d, _ | ⟨e, _ | ⟨f, r⟩⟩⟩⟩⟩⟩ <;> first | rfl | (simp at h)
theorem grown_bel {a b c : World} {row : Option Nat} (h : a.grownBy b row) (k : Below a.heap.size b c) : a.grownBy c row :=
  ⟨k.os.trans h.os, k.tape.trans h.tape, k.output.trans h.output, Nat.le_trans h.size k.size, fun i hi hr => (k.block i hi).trans (h.block i hi hr)⟩

set_option maxHeartbeats 2000000 in
theorem next_any (s : Nat) (v : Int) (lo hi gn gb k : Nat) (w : World) (hs : sysB (s : Int) v = true) (hk : k ≤ 100000) (h : Odo w lo hi gn gb s v k) :
    Calls Try.prog 80 #[.pointer (some ⟨gn, 0, none⟩), .pointer (some ⟨gb, 0, none⟩)] w
      fun e w' => e = .returned (.tuple #[.agg #[.int .i64 (nth (curC s v k) 0), .int .i64 (nth (curC s v k) 1), .int .i64 (nth (curC s v k) 2), .int .i64 (nth (curC s v k) 3), .int .i64 (nth (curC s v k) 4)], .bool (decide ((k : Int) < powC v s))]) ∧ Odo w' lo hi gn gb s v (k + 1) ∧ w.grownBy w' (some gn) := by
  obtain ⟨s0, s1, v0, v1⟩ := sys_true hs
  obtain ⟨g, g1, gh, g2, g3, g4⟩ := h.bas
  have W1 : w.heap.size + 1 + 1 = ((w.alloc (.cells #[.int .i64 0, .int .i64 0, .int .i64 0, .int .i64 0, .int .i64 0] 83)).alloc (.cells #[.int .i64 0, .int .i64 0, .int .i64 0, .int .i64 0, .int .i64 0] 83)).heap.size := by simp
  have B1 := below_box w (.cells #[.int .i64 0, .int .i64 0, .int .i64 0, .int .i64 0, .int .i64 0] 83)
  have B2 := Lib.hid (B1.alloc B1.size (.cells #[.int .i64 0, .int .i64 0, .int .i64 0, .int .i64 0, .int .i64 0] 83))
  have O2 := Lib.hid (h.on B2.out)
  obtain ⟨g', g1', gh', g2', g3', g4'⟩ := O2.out.bas
  have c0 := cell_of_one O2.out.num
  have c1 := cell_of_one g3'
  go_enter Try.func80, Try.ntmps80
  have hcl : ∃ xs, curC s v k = xs ∧ digL (k : Int) (List.replicate s v) = xs ∧ (digE (k : Int) (List.replicate s v) == 0) = decide ((k : Int) < powC v s) ∧ xs.length ≤ 5 := by
    refine ⟨_, rfl, ?_⟩
    by_cases hlt : (k : Int) < powC v s
    · rw [cur_yes hlt, (dig_code (by omega) (by omega) v0 v1 (by omega) (by omega) hlt).1, (dig_code (by omega) (by omega) v0 v1 (by omega) (by omega) hlt).2]
      exact ⟨rfl, by simp [hlt], by rw [codeN_len]; omega⟩
    · rw [cur_no hlt, (dig_over (by omega) (by omega) v0 v1 (by omega) hlt).1, (dig_over (by omega) (by omega) v0 v1 (by omega) hlt).2]
      exact ⟨rfl, by simp [hlt], by simp⟩
  obtain ⟨xs, hcx, hdl, hde, hx5⟩ := hcl
  rw [hcx]
  have HDE := Lib.hid hde
  have I2 := Lib.hid (rep_ints g4')
  clear hcx hde
  go_wp2_with fail
  refine (digitsOf_any (k : Int) _ s s (List.replicate s v) _ I2.out (by omega)).mono ?_
  rw [hdl]
  rintro e w2 ⟨A, n, c, rfl, O, hn, b2⟩
  have B3 := Lib.hid (below_trans' B2.out b2)
  have X3 := Lib.hid ((Box5.zero ((Below.heap_alloc _ _ _ (by simp)).trans (heap_alloc_new w _))).on b2 : Box5 w2 w.heap.size [])
  have Y3' := heap_alloc_new (w.alloc (.cells #[.int .i64 0, .int .i64 0, .int .i64 0, .int .i64 0, .int .i64 0] 83)) (.cells #[.int .i64 0, .int .i64 0, .int .i64 0, .int .i64 0, .int .i64 0] 83)
  rw [World.size_alloc] at Y3'
  have Y3 := Lib.hid ((b2.block (w.heap.size + 1) (by simp)).trans Y3')
  have HO := Lib.hid O.ints
  have hnl : xs.length = n := O.len
  have hz2 : w.heap.size + 1 + 1 ≤ w2.heap.size := by have := b2.size; simpa using this
  clear O b2 Y3' c0 c1 g3' g4' O2 B1 B2 I2 hdl
  have hmin : (intsV xs).length = Nat.min n 5 := by rw [intsV_len, hnl]; exact (Nat.min_eq_left (by omega)).symm
  have hsrc : 0 < (intsV xs).length → ∃ ad, A = some ad ∧ ∀ (j : Nat) (u : Value), (intsV xs)[j]? = some u → w2.cell? (ad.add j) = some u := by
    intro h0
    rw [intsV_len, hnl] at h0
    obtain ⟨ad, e, _, hc⟩ := HO.out.2 h0
    refine ⟨ad, e, fun j u hj => ?_⟩
    unfold intsV at hj
    rw [List.getElem?_map] at hj
    rcases hq : xs[j]? with _ | z
    · rw [hq] at hj; cases hj
    · rw [hq] at hj
      have : Value.int .i64 z = u := by simpa using hj
      rw [← this]; exact hc j z hq
  have HS := Lib.hid hsrc
  clear hsrc
  have HF : Hid (xs.length ≤ 5) := Lib.hid hx5
  go_upto_region 4 with (with_reducible refine wpList_copy_splice rfl _ _ 24 24 rfl 2 Try.underlying24 (by kernel_rfl) (some ⟨w.heap.size + 1, 0, none⟩) A 5 5 n c rfl rfl (w.heap.size + 1) 0 [.int .i64 0, .int .i64 0, .int .i64 0, .int .i64 0, .int .i64 0] 83 Y3.out (intsV xs) hmin (fun h0 => ⟨rfl, HS.out h0⟩) (by rw [intsV_len, Nat.zero_add]; simpa using HF.out) (intsV_one xs) (w.heap.size + 1) w2 (Below.refl _ _) (Nat.le_refl _) ?_; intro w4 G4 B4)
  rw [splice_code hx5] at G4
  have Y4 : Hid (Box5 w4 (w.heap.size + 1) xs) := G4
  have B4' := Lib.hid (B3.out.trans (B4.mono (Nat.le_succ _)) : Below w.heap.size w w4)
  have X4 := Lib.hid (X3.out.below' B4)
  have O4 := Lib.hid (h.on B4'.out)
  have c0 := cell_of_one O4.out.num
  have f0 := free_of_one O4.out.num
  have hgl := h.lt
  have k0 : (0 : Int) ≤ (k : Int) := by omega
  clear G4 B4 Y3 X3 HS HO B3 hmin
  go_upto_region 5 with (fail)
  have O5 : Hid ((w4.setCell ⟨gn, 0, none⟩ (.int .i64 ((k : Int) + 1))).heap[gn]? = some (.cells #[.int .i64 ((k : Int) + 1)] 2 (0, 0)) ∧ (w4.setCell ⟨gn, 0, none⟩ (.int .i64 ((k : Int) + 1))).heap[gb]? = some (.cells #[.slice (some ⟨g, 0, none⟩) s s] 24 (0, 0)) ∧ (w4.setCell ⟨gn, 0, none⟩ (.int .i64 ((k : Int) + 1))).heap[g]? = some (.cells (repL v s s).toArray 2 (0, 0))) := Lib.hid
    ⟨one_setCell O4.out.num, (Below.heap_setCell _ _ _ _ h.ne).trans ((B4'.out.block gb (heapLt g3)).trans g3), (Below.heap_setCell _ _ _ _ g2).trans ((B4'.out.block g (heapLt g4)).trans g4)⟩
  have X5 := Lib.hid (X4.out.aside (a := ⟨gn, 0, none⟩) (by simp; omega) (.int .i64 ((k : Int) + 1)))
  have Y5 := Lib.hid (Y4.out.aside (a := ⟨gn, 0, none⟩) (by simp; omega) (.int .i64 ((k : Int) + 1)))
  have G5 : Hid (w.grownBy (w4.setCell ⟨gn, 0, none⟩ (.int .i64 ((k : Int) + 1))) (some gn)) := Lib.hid (grown_set (p := ⟨gn, 0, none⟩) (grown_bel (World.grownBy.refl w (some gn)) B4'.out) rfl _)
  have hsz : w.heap.size + 1 < (w4.setCell ⟨gn, 0, none⟩ (.int .i64 ((k : Int) + 1))).heap.size := Y5.out.lt
  clear O4 X4 Y4 B4' c0 f0
  have de := HDE.out
  generalize w4.setCell ⟨gn, 0, none⟩ (.int .i64 ((k : Int) + 1)) = w5 at O5 X5 Y5 G5 hsz ⊢
  obtain ⟨y0, y1, y2, y3, y4⟩ := Y5.out.cells
  obtain ⟨x0, x1, x2, x3, x4⟩ := X5.out.cells
  have t0 := X5.out.thawed 0
  have t1 := X5.out.thawed 1
  have t2 := X5.out.thawed 2
  have t3 := X5.out.thawed 3
  have t4 := X5.out.thawed 4
  go_wp2
  clear y0 y1 y2 y3 y4 x0 x1 x2 x3 x4 t0 t1 t2 t3 t4
  obtain ⟨r0, r1, r2, r3, r4⟩ := (X5.out.put xs).cells
  have O6 : Hid (Odo (putS w5 w.heap.size xs) lo hi gn gb s v (k + 1)) := Lib.hid (by
    have ot : ∀ q, q < w.heap.size → (putS w5 w.heap.size xs).heap[q]? = w5.heap[q]? := fun q hq => by
      unfold putS
      rw [Below.heap_setCell _ _ _ _ (by simp; omega), Below.heap_setCell _ _ _ _ (by simp; omega), Below.heap_setCell _ _ _ _ (by simp; omega), Below.heap_setCell _ _ _ _ (by simp; omega), Below.heap_setCell _ _ _ _ (by simp; omega)]
    exact ⟨(ot gn h.lt).trans (by rw [O5.out.1]; rfl), ⟨g, g1, gh, g2, (ot gb (heapLt g3)).trans O5.out.2.1, (ot g (heapLt g4)).trans O5.out.2.2⟩, h.lon, h.lob, h.hin, h.hib, h.ne⟩)
  have G6 := Lib.hid (grown_put G5.out (Nat.le_refl _) xs)
  unfold putS at r0 r1 r2 r3 r4 O6 G6
  refine bodyPost_ret (v := .tuple #[.agg #[.int .i64 (nth xs 0), .int .i64 (nth xs 1), .int .i64 (nth xs 2), .int .i64 (nth xs 3), .int .i64 (nth xs 4)], .bool (decide ((k : Int) < powC v s))]) (by simp [results, Try.results80, go_sem, r0, r1, r2, r3, r4]) rfl ⟨rfl, O6.out, G6.out⟩

end Go.Proofs.Ytpabccgndhmcdaa
