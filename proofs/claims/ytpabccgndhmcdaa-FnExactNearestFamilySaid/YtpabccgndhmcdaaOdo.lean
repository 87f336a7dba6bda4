/- The closure that counts the side codes: contracts of the function that makes it and of its own calls. -/
import Derived.Test.YtpabccgndhmcdaaRepeat
import Derived.Test.YtpabccgndhmcdaaCodeN
namespace Go.Proofs.Ytpabccgndhmcdaa
open Go.RowKit

/-- the cells behind the closure: its number is k, its bases are s times v; all in blocks from lo on -/
structure Odo (w : World) (lo hi gn gb : Nat) (s : Nat) (v : Int) (k : Nat) : Prop where
  num : w.heap[gn]? = some (.cells #[.int .i64 (k : Int)] 2 (0, 0))
  bas : ∃ g, lo ≤ g ∧ g < hi ∧ g ≠ gn ∧ w.heap[gb]? = some (.cells #[.slice (some ⟨g, 0, none⟩) s s] 24 (0, 0)) ∧ w.heap[g]? = some (.cells (repL v s s).toArray 2 (0, 0))
  lon : lo ≤ gn
  lob : lo ≤ gb
  hin : gn < hi
  hib : gb < hi
  ne : gb ≠ gn
theorem Odo.lt {w : World} {lo hi gn gb s k : Nat} {v : Int} (h : Odo w lo hi gn gb s v k) : gn < w.heap.size := heapLt h.num
theorem Odo.grown {w w' : World} {lo hi gn gb s k : Nat} {v : Int} {row : Option Nat} (h : Odo w lo hi gn gb s v k) (hg : w.grownBy w' row) (hr : ∀ g, row = some g → g < lo ∨ hi ≤ g) : Odo w' lo hi gn gb s v k := by
  obtain ⟨g, g1, gh, g2, g3, g4⟩ := h.bas
  have ne : ∀ b, lo ≤ b → b < hi → some b ≠ row := fun b h1 h2 e => by have := hr b e.symm; omega
  exact ⟨(hg.block gn h.lt (ne _ h.lon h.hin)).trans h.num, ⟨g, g1, gh, g2, (hg.block gb (heapLt g3) (ne _ h.lob h.hib)).trans g3, (hg.block g (heapLt g4) (ne _ g1 gh)).trans g4⟩, h.lon, h.lob, h.hin, h.hib, h.ne⟩
theorem Odo.on {w w' : World} {lo hi gn gb s k : Nat} {v : Int} (h : Odo w lo hi gn gb s v k) (hb : Below w.heap.size w w') : Odo w' lo hi gn gb s v k := by
  obtain ⟨g, g1, gh, g2, g3, g4⟩ := h.bas
  exact ⟨(hb.block gn h.lt).trans h.num, ⟨g, g1, gh, g2, (hb.block gb (heapLt g3)).trans g3, (hb.block g (heapLt g4)).trans g4⟩, h.lon, h.lob, h.hin, h.hib, h.ne⟩
theorem Odo.aside {w : World} {lo hi gn gb s k : Nat} {v : Int} (h : Odo w lo hi gn gb s v k) {a : Addr} (ha : a.block < lo ∨ hi ≤ a.block) (u : Value) : Odo (w.setCell a u) lo hi gn gb s v k :=
  h.grown (row := some a.block) (grown_set (p := a) (World.grownBy.refl w (some a.block)) rfl u) (fun g e => by injection e with e; omega)
theorem rep_ints {w : World} {g s : Nat} {v : Int} (h : w.heap[g]? = some (.cells (repL v s s).toArray 2 (0, 0))) : Ints w w.heap.size (some ⟨g, 0, none⟩) s (List.replicate s v) := by
  refine ⟨List.length_replicate, fun _ => ⟨_, rfl, heapLt h, fun j u hj => ?_⟩⟩
  have e : (⟨g, 0, none⟩ : Addr).add j = ⟨g, j, none⟩ := by rcases j with _ | j <;> simp [Addr.add]
  obtain ⟨hj', hu⟩ := List.getElem?_eq_some_iff.1 hj
  rw [List.getElem_replicate] at hu
  have h2 := repL_at (v := v) (s := s) (j := s) (i := j) (by rw [List.length_replicate] at hj'; exact hj')
  rw [e]
  subst hu
  simp [World.cell?, h, h2]

set_option maxHeartbeats 1000000 in
theorem odometer_any (s : Nat) (v : Int) (w : World) (h1 : 1 ≤ s) (h5 : s ≤ 5) :
    Calls Try.prog 73 #[.agg #[.int .i64 (s : Int), .int .i64 v]] w
      fun e w' => ∃ gn gb, e = .returned (.func (.func 80) #[] #[.pointer (some ⟨gn, 0, none⟩), .pointer (some ⟨gb, 0, none⟩)]) ∧ Odo w' w.heap.size w'.heap.size gn gb s v 0 ∧ Below w.heap.size w w' := by
  go_enter Try.func73, Try.ntmps73
  go_wp2_with fail
  refine (repeat_any v s h1 h5 _ _ _ (by simp)).mono ?_
  rintro e w1 ⟨rfl, R1, b1⟩
  have B0 := below_box w (.cells #[.int .i64 (s : Int), .int .i64 v] 66)
  have B1 := Lib.hid (below_trans' (B0.alloc B0.size (.cells #[.int .i64 v] 2)) b1)
  have hz : ((w.alloc (.cells #[.int .i64 (s : Int), .int .i64 v] 66)).alloc (.cells #[.int .i64 v] 2)).heap.size = w.heap.size + 1 + 1 := by simp
  rw [hz] at R1
  have HR := Lib.hid R1
  have hlt := heapLt R1
  clear R1 b1 B0 hz
  have B2 := Lib.hid (B1.out.alloc B1.out.size (.cells #[.slice (some ⟨w.heap.size + 1 + 1, 0, none⟩) s s] 24))
  have B3 := Lib.hid (B2.out.alloc B2.out.size (.cells #[.int .i64 0] 2))
  have HO : Hid (Odo ((w1.alloc (.cells #[.slice (some ⟨w.heap.size + 1 + 1, 0, none⟩) s s] 24)).alloc (.cells #[.int .i64 0] 2)) w.heap.size (w1.heap.size + 1 + 1) (w1.heap.size + 1) w1.heap.size s v 0) := Lib.hid (by
    have e0 := heap_alloc_new w1 (.cells #[.slice (some ⟨w.heap.size + 1 + 1, 0, none⟩) s s] 24)
    have e1 := heap_alloc_new (w1.alloc (.cells #[.slice (some ⟨w.heap.size + 1 + 1, 0, none⟩) s s] 24)) (.cells #[.int .i64 0] 2)
    rw [World.size_alloc] at e1
    have hb := B1.out.size
    refine ⟨e1, ⟨w.heap.size + 1 + 1, by omega, by omega, by omega, (Below.heap_alloc _ _ _ (by rw [World.size_alloc]; omega)).trans e0, (Below.heap_alloc _ _ _ (by rw [World.size_alloc]; omega)).trans ((Below.heap_alloc _ _ _ hlt).trans HR.out)⟩, by omega, by omega, by omega, by omega, by omega⟩)
  clear HR B1 B2
  go_wp2
  go_ret
  exact ⟨_, _, rfl, by simpa using HO.out, B3.out⟩

/-- the closure's answer: the next code, or none -/
def curC (s : Nat) (v : Int) (k : Nat) : List Int := if (k : Int) < powC v s then codeN s v k else []
theorem cur_yes {s k : Nat} {v : Int} (h : (k : Int) < powC v s) : curC s v k = codeN s v k := by unfold curC; rw [if_pos h]
theorem cur_no {s k : Nat} {v : Int} (h : ¬ (k : Int) < powC v s) : curC s v k = [] := by unfold curC; rw [if_neg h]

/-- a side code is stored -/
def putS (w : World) (b : Nat) (xs : List Int) : World :=
  ((((w.setCell ⟨b, 0, none⟩ (.int .i64 (nth xs 0))).setCell ⟨b, 1, none⟩ (.int .i64 (nth xs 1))).setCell ⟨b, 2, none⟩ (.int .i64 (nth xs 2))).setCell ⟨b, 3, none⟩ (.int .i64 (nth xs 3))).setCell ⟨b, 4, none⟩ (.int .i64 (nth xs 4))
theorem Box5.put {w : World} {b : Nat} {ys : List Int} (h : Box5 w b ys) (xs : List Int) : Box5 (putS w b xs) b xs := by
  unfold Box5 putS at *; simp [World.setCell, Array.getElem?_modify, h]
theorem grown_put {a w : World} {row : Option Nat} (h : a.grownBy w row) {b : Nat} (hb : a.heap.size ≤ b) (xs : List Int) : a.grownBy (putS w b xs) row :=
  grown_new (grown_new (grown_new (grown_new (grown_new h (p := ⟨b, 0, none⟩) hb _) (p := ⟨b, 1, none⟩) hb _) (p := ⟨b, 2, none⟩) hb _) (p := ⟨b, 3, none⟩) hb _) (p := ⟨b, 4, none⟩) hb _
theorem put_size (w : World) (b : Nat) (xs : List Int) : (putS w b xs).heap.size = w.heap.size := by simp [putS, World.setCell]
theorem Box5.zero {w : World} {g : Nat} (h : w.heap[g]? = some (.cells #[.int .i64 0, .int .i64 0, .int .i64 0, .int .i64 0, .int .i64 0] 83 (0, 0))) : Box5 w g [] := h
theorem Box5.below' {w w' : World} {g : Nat} {xs : List Int} (h : Box5 w g xs) (hb : Below (g + 1) w w') : Box5 w' g xs := (hb.block g (by omega)).trans h
theorem splice_code {xs : List Int} (h : xs.length ≤ 5) : splice [Value.int .i64 0, .int .i64 0, .int .i64 0, .int .i64 0, .int .i64 0] 0 (intsV xs) = [.int .i64 (nth xs 0), .int .i64 (nth xs 1), .int .i64 (nth xs 2), .int .i64 (nth xs 3), .int .i64 (nth xs 4)] := by
  rcases xs with _ | ⟨a, _ | ⟨b, _ | ⟨c, _ | ⟨d, _ | ⟨e, _ | ⟨f, r⟩⟩⟩⟩⟩⟩ <;> first | rfl | (simp at h)
theorem grown_bel {a b c : World} {row : Option Nat} (h : a.grownBy b row) (k : Below a.heap.size b c) : a.grownBy c row :=
  ⟨k.os.trans h.os, k.tape.trans h.tape, k.output.trans h.output, Nat.le_trans h.size k.size, fun i hi hr => (k.block i hi).trans (h.block i hi hr)⟩

set_option maxHeartbeats 2000000 in
theorem next_any (s : Nat) (v : Int) (lo hi gn gb k : Nat) (w : World) (hs : sysB (s : Int) v = true) (hk : k ≤ 100000) (h : Odo w lo hi gn gb s v k) :
    Calls Try.prog 80 #[.pointer (some ⟨gn, 0, none⟩), .pointer (some ⟨gb, 0, none⟩)] w
      fun e w' => e = .returned (.tuple #[.agg #[.int .i64 (nth (curC s v k) 0), .int .i64 (nth (curC s v k) 1), .int .i64 (nth (curC s v k) 2), .int .i64 (nth (curC s v k) 3), .int .i64 (nth (curC s v k) 4)], .bool (decide ((k : Int) < powC v s))]) ∧ Odo w' lo hi gn gb s v (k + 1) ∧ w.grownBy w' (some gn) := by
  obtain ⟨s0, s1, v0, v1⟩ := sys_true hs
  obtain ⟨g, g1, gh, g2, g3, g4⟩ := h.bas
  have W1 : w.heap.size + 1 + 1 = ((w.alloc (.cells #[.int .i64 0, .int .i64 0, .int .i64 0, .int .i64 0, .int .i64 0] 83)).alloc (.cells #[.int .i64 0, .int .i64 0, .int .i64 0, .int .i64 0, .int .i64 0] 83)).heap.size := by simp
  have B1 := below_box w (.cells #[.int .i64 0, .int .i64 0, .int .i64 0, .int .i64 0, .int .i64 0] 83)
  have B2 := Lib.hid (B1.alloc B1.size (.cells #[.int .i64 0, .int .i64 0, .int .i64 0, .int .i64 0, .int .i64 0] 83))
  have O2 := Lib.hid (h.on B2.out)
  obtain ⟨g', g1', gh', g2', g3', g4'⟩ := O2.out.bas
  have c0 := cell_of_one O2.out.num
  have c1 := cell_of_one g3'
  go_enter Try.func80, Try.ntmps80
  have hcl : ∃ xs, curC s v k = xs ∧ digL (k : Int) (List.replicate s v) = xs ∧ (digE (k : Int) (List.replicate s v) == 0) = decide ((k : Int) < powC v s) ∧ xs.length ≤ 5 := by
    refine ⟨_, rfl, ?_⟩
    by_cases hlt : (k : Int) < powC v s
    · rw [cur_yes hlt, (dig_code (by omega) (by omega) v0 v1 (by omega) (by omega) hlt).1, (dig_code (by omega) (by omega) v0 v1 (by omega) (by omega) hlt).2]
      exact ⟨rfl, by simp [hlt], by rw [codeN_len]; omega⟩
    · rw [cur_no hlt, (dig_over (by omega) (by omega) v0 v1 (by omega) hlt).1, (dig_over (by omega) (by omega) v0 v1 (by omega) hlt).2]
      exact ⟨rfl, by simp [hlt], by simp⟩
  obtain ⟨xs, hcx, hdl, hde, hx5⟩ := hcl
  rw [hcx]
  have HDE := Lib.hid hde
  have I2 := Lib.hid (rep_ints g4')
  clear hcx hde
  go_wp2_with fail
  refine (digitsOf_any (k : Int) _ s s (List.replicate s v) _ I2.out (by omega)).mono ?_
  rw [hdl]
  rintro e w2 ⟨A, n, c, rfl, O, hn, b2⟩
  have B3 := Lib.hid (below_trans' B2.out b2)
  have X3 := Lib.hid ((Box5.zero ((Below.heap_alloc _ _ _ (by simp)).trans (heap_alloc_new w _))).on b2 : Box5 w2 w.heap.size [])
  have Y3' := heap_alloc_new (w.alloc (.cells #[.int .i64 0, .int .i64 0, .int .i64 0, .int .i64 0, .int .i64 0] 83)) (.cells #[.int .i64 0, .int .i64 0, .int .i64 0, .int .i64 0, .int .i64 0] 83)
  rw [World.size_alloc] at Y3'
  have Y3 := Lib.hid ((b2.block (w.heap.size + 1) (by simp)).trans Y3')
  have HO := Lib.hid O.ints
  have hnl : xs.length = n := O.len
  have hz2 : w.heap.size + 1 + 1 ≤ w2.heap.size := by have := b2.size; simpa using this
  clear O b2 Y3' c0 c1 g3' g4' O2 B1 B2 I2 hdl
  have hmin : (intsV xs).length = Nat.min n 5 := by rw [intsV_len, hnl]; exact (Nat.min_eq_left (by omega)).symm
  have hsrc : 0 < (intsV xs).length → ∃ ad, A = some ad ∧ ∀ (j : Nat) (u : Value), (intsV xs)[j]? = some u → w2.cell? (ad.add j) = some u := by
    intro h0
    rw [intsV_len, hnl] at h0
    obtain ⟨ad, e, _, hc⟩ := HO.out.2 h0
    refine ⟨ad, e, fun j u hj => ?_⟩
    unfold intsV at hj
    rw [List.getElem?_map] at hj
    rcases hq : xs[j]? with _ | z
    · rw [hq] at hj; cases hj
    · rw [hq] at hj
      have : Value.int .i64 z = u := by simpa using hj
      rw [← this]; exact hc j z hq
  have HS := Lib.hid hsrc
  clear hsrc
  have HF : Hid (xs.length ≤ 5) := Lib.hid hx5
  go_upto_region 4 with (with_reducible refine wpList_copy_splice rfl _ _ 24 24 rfl 2 Try.underlying24 (by kernel_rfl) (some ⟨w.heap.size + 1, 0, none⟩) A 5 5 n c rfl rfl (w.heap.size + 1) 0 [.int .i64 0, .int .i64 0, .int .i64 0, .int .i64 0, .int .i64 0] 83 Y3.out (intsV xs) hmin (fun h0 => ⟨rfl, HS.out h0⟩) (by rw [intsV_len, Nat.zero_add]; simpa using HF.out) (intsV_one xs) (w.heap.size + 1) w2 (Below.refl _ _) (Nat.le_refl _) ?_; intro w4 G4 B4)
  rw [splice_code hx5] at G4
  have Y4 : Hid (Box5 w4 (w.heap.size + 1) xs) := G4
  have B4' := Lib.hid (B3.out.trans (B4.mono (Nat.le_succ _)) : Below w.heap.size w w4)
  have X4 := Lib.hid (X3.out.below' B4)
  have O4 := Lib.hid (h.on B4'.out)
  have c0 := cell_of_one O4.out.num
  have f0 := free_of_one O4.out.num
  have hgl := h.lt
  have k0 : (0 : Int) ≤ (k : Int) := by omega
  clear G4 B4 Y3 X3 HS HO B3 hmin
  go_upto_region 5 with (fail)
  have O5 : Hid ((w4.setCell ⟨gn, 0, none⟩ (.int .i64 ((k : Int) + 1))).heap[gn]? = some (.cells #[.int .i64 ((k : Int) + 1)] 2 (0, 0)) ∧ (w4.setCell ⟨gn, 0, none⟩ (.int .i64 ((k : Int) + 1))).heap[gb]? = some (.cells #[.slice (some ⟨g, 0, none⟩) s s] 24 (0, 0)) ∧ (w4.setCell ⟨gn, 0, none⟩ (.int .i64 ((k : Int) + 1))).heap[g]? = some (.cells (repL v s s).toArray 2 (0, 0))) := Lib.hid
    ⟨one_setCell O4.out.num, (Below.heap_setCell _ _ _ _ h.ne).trans ((B4'.out.block gb (heapLt g3)).trans g3), (Below.heap_setCell _ _ _ _ g2).trans ((B4'.out.block g (heapLt g4)).trans g4)⟩
  have X5 := Lib.hid (X4.out.aside (a := ⟨gn, 0, none⟩) (by simp; omega) (.int .i64 ((k : Int) + 1)))
  have Y5 := Lib.hid (Y4.out.aside (a := ⟨gn, 0, none⟩) (by simp; omega) (.int .i64 ((k : Int) + 1)))
  have G5 : Hid (w.grownBy (w4.setCell ⟨gn, 0, none⟩ (.int .i64 ((k : Int) + 1))) (some gn)) := Lib.hid (grown_set (p := ⟨gn, 0, none⟩) (grown_bel (World.grownBy.refl w (some gn)) B4'.out) rfl _)
  have hsz : w.heap.size + 1 < (w4.setCell ⟨gn, 0, none⟩ (.int .i64 ((k : Int) + 1))).heap.size := Y5.out.lt
  clear O4 X4 Y4 B4' c0 f0
  have de := HDE.out
  generalize w4.setCell ⟨gn, 0, none⟩ (.int .i64 ((k : Int) + 1)) = w5 at O5 X5 Y5 G5 hsz ⊢
  obtain ⟨y0, y1, y2, y3, y4⟩ := Y5.out.cells
  obtain ⟨x0, x1, x2, x3, x4⟩ := X5.out.cells
  have t0 := X5.out.thawed 0
  have t1 := X5.out.thawed 1
  have t2 := X5.out.thawed 2
  have t3 := X5.out.thawed 3
  have t4 := X5.out.thawed 4
  go_wp2
  clear y0 y1 y2 y3 y4 x0 x1 x2 x3 x4 t0 t1 t2 t3 t4
  obtain ⟨r0, r1, r2, r3, r4⟩ := (X5.out.put xs).cells
  have O6 : Hid (Odo (putS w5 w.heap.size xs) lo hi gn gb s v (k + 1)) := Lib.hid (by
    have ot : ∀ q, q < w.heap.size → (putS w5 w.heap.size xs).heap[q]? = w5.heap[q]? := fun q hq => by
      unfold putS
      rw [Below.heap_setCell _ _ _ _ (by simp; omega), Below.heap_setCell _ _ _ _ (by simp; omega), Below.heap_setCell _ _ _ _ (by simp; omega), Below.heap_setCell _ _ _ _ (by simp; omega), Below.heap_setCell _ _ _ _ (by simp; omega)]
    exact ⟨(ot gn h.lt).trans (by rw [O5.out.1]; rfl), ⟨g, g1, gh, g2, (ot gb (heapLt g3)).trans O5.out.2.1, (ot g (heapLt g4)).trans O5.out.2.2⟩, h.lon, h.lob, h.hin, h.hib, h.ne⟩)
  have G6 := Lib.hid (grown_put G5.out (Nat.le_refl _) xs)
  unfold putS at r0 r1 r2 r3 r4 O6 G6
  refine bodyPost_ret (v := .tuple #[.agg #[.int .i64 (nth xs 0), .int .i64 (nth xs 1), .int .i64 (nth xs 2), .int .i64 (nth xs 3), .int .i64 (nth xs 4)], .bool (decide ((k : Int) < powC v s))]) (by simp [results, Try.results80, go_sem, r0, r1, r2, r3, r4]) rfl ⟨rfl, O6.out, G6.out⟩

end Go.Proofs.Ytpabccgndhmcdaa
