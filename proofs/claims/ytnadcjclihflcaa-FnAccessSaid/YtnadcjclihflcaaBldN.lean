/- The program's set of nodes under a node, and its question whether all of some nodes belong to it. The height of a building. -/
import Derived.Test.YtnadcjclihflcaaBldW
import Derived.Test.YtnadcjclihflcaaBldU
import Derived.Deep.MidRow
namespace Go.Proofs.Ytnadcjclihflcaa
open Go Go.RowKit

/-- a set of nodes as it lies -/
def set24 (p : Nat → Bool) : Array Value := #[.bool (p 0), .bool (p 1), .bool (p 2), .bool (p 3), .bool (p 4), .bool (p 5), .bool (p 6), .bool (p 7), .bool (p 8), .bool (p 9), .bool (p 10), .bool (p 11), .bool (p 12), .bool (p 13), .bool (p 14), .bool (p 15), .bool (p 16), .bool (p 17), .bool (p 18), .bool (p 19), .bool (p 20), .bool (p 21), .bool (p 22), .bool (p 23)]
theorem set24_map (p : Nat → Bool) : set24 p = ((List.range 24).map fun i => Value.bool (p i)).toArray := rfl
theorem set24_at (p : Nat → Bool) {i : Nat} (h : i < 24) : (set24 p)[i]? = some (.bool (p i)) := by
  rw [set24_map]; simp [h]
theorem set24_set (p : Nat → Bool) (x : Nat) : (set24 p).setIfInBounds x (.bool true) = set24 (fun i => p i || i == x) := by
  rw [set24_map, set24_map]
  apply Array.ext
  · simp
  · intro i h1 h2
    simp at h1
    simp
    by_cases e : x = i
    · subst e; simp
    · simp [e, Ne.symm e]
theorem set24_congr {p q : Nat → Bool} (h : ∀ i, i < 24 → p i = q i) : set24 p = set24 q := by
  rw [set24_map, set24_map]
  congr 1
  refine List.map_congr_left fun i hi => ?_
  rw [h i (List.mem_range.1 hi)]
def Set24 (w : World) (g : Nat) (p : Nat → Bool) : Prop := w.heap[g]? = some (.cells (set24 p) 89 (0, 0))
theorem Set24.lt {w : World} {g : Nat} {p : Nat → Bool} (h : Set24 w g p) : g < w.heap.size := heapLt h
theorem Set24.on {w w' : World} {g : Nat} {p : Nat → Bool} (h : Set24 w g p) (hb : Below w.heap.size w w') : Set24 w' g p := (hb.block g h.lt).trans h
theorem Set24.on' {w w' : World} {g b : Nat} {p : Nat → Bool} (h : Set24 w g p) (hg : w.grownBy w' (some b)) (hne : g ≠ b) : Set24 w' g p := (hg.block g h.lt (by simp; omega)).trans h
theorem Set24.cell {w : World} {g : Nat} {p : Nat → Bool} (h : Set24 w g p) {i : Nat} (hi : i < 24) : w.cell? ⟨g, i, none⟩ = some (.bool (p i)) := by
  unfold Set24 at h; simp [World.cell?, h, set24_at p hi]
theorem Set24.thawed {w : World} {g : Nat} {p : Nat → Bool} (h : Set24 w g p) (i : Nat) : w.frozen? ⟨g, i, none⟩ = false := by
  unfold Set24 at h; simp [World.frozen?, h]
theorem Set24.put {w : World} {g : Nat} {p : Nat → Bool} (h : Set24 w g p) (x : Nat) : Set24 (w.setCell ⟨g, x, none⟩ (.bool true)) g (fun i => p i || i == x) := by
  unfold Set24 at *
  rw [← set24_set]
  simp [World.setCell, Array.getElem?_modify, h]

theorem mark24_any (l : Int) (g x : Nat) (p : Nat → Bool) (w : World) (h : Set24 w g p) (hx : x < 24) :
    Calls Try.prog 131 #[.int .i64 (x : Int), .int .i64 l, .pointer (some ⟨g, 0, none⟩)] w fun e w' => e = .returned (.tuple #[]) ∧ Set24 w' g (fun i => p i || i == x) ∧ w.grownBy w' (some g) := by
  have hc := h.cell hx
  have hf := h.thawed x
  have HP := Lib.hid (h.put x)
  have i0 : (0 : Int) ≤ (x : Int) := by omega
  have i1 : (x : Int) < 24 := by omega
  go_enter Try.func131, Try.ntmps131
  go_wp2
  go_end0
  exact ⟨rfl, HP.out, grown_set (p := ⟨g, x, none⟩) (World.grownBy.refl w _) rfl _⟩

def inN (n : Nat) (p : Nat → Bool) (i : Nat) : Bool := decide (i < n) && p i
theorem set24_len (p : Nat → Bool) : (set24 p).toList.length = 24 := rfl
theorem set24_one (p : Nat → Bool) : (set24 p).all (·.oneCell') = true := by
  rw [set24_map]
  refine all_oneCell_toArray fun v hv => ?_
  obtain ⟨i, _, rfl⟩ := List.mem_map.1 hv
  rfl
theorem Set24.range {w : World} {g : Nat} {p : Nat → Bool} (h : Set24 w g p) : w.rangeAt g 0 (set24 p).toList := by
  intro j v hv
  have hj : j < 24 := by have := (List.getElem?_eq_some_iff.1 hv).1; rwa [set24_len] at this
  rw [Array.getElem?_toList, set24_at p hj] at hv
  rw [Nat.zero_add, h.cell hj, hv]
theorem Set24.there {w : World} {g : Nat} {p : Nat → Bool} (h : Set24 w g p) : w.there g 0 24 := fun j hj => by
  rw [Nat.zero_add]
  exact ⟨by rw [h.cell hj]; rfl, h.thawed j⟩
theorem Set24.new (w : World) : Set24 (w.alloc (.cells #[.bool false, .bool false, .bool false, .bool false, .bool false, .bool false, .bool false, .bool false, .bool false, .bool false, .bool false, .bool false, .bool false, .bool false, .bool false, .bool false, .bool false, .bool false, .bool false, .bool false, .bool false, .bool false, .bool false, .bool false] 89)) w.heap.size (fun _ => false) := heap_alloc_new w _
theorem Try.und24 : Try.prog.underlying 89 = some (.array 24 4) := by kernel_rfl

theorem Try.info24 : (Try.prog.info? 89).map (·.size) = some 24 := by kernel_rfl

theorem below_setCells {B : Nat} {a : World} (b : Nat) (hB : B ≤ b) : ∀ (vs : List Value) (o : Nat) (w : World), Below B a w → Below B a (w.setCells b o vs)
  | [], _, _, h => h
  | v :: r, o, w, h => by
    rw [World.setCells]
    exact below_setCells b hB r (o + 1) _ (h.setCell (p := ⟨b, o, none⟩) hB v)

set_option maxHeartbeats 1000000 in
theorem nodesUnder_any (A B : Option Addr) (n c k d x : Nat) (P : List Int) (D : List Bool) (w : World) (h : Bld w A n B k P D) (hT : Tree P) (hL : P.length = n) (hn : n ≤ 24) (hxn : x < n) :
    Calls Try.prog 84 #[.agg #[.slice A n c, .slice B k d], .int .i64 (x : Int)] w
      fun e w' => e = .returned (.agg (set24 (inN n (und P x)))) ∧ Below w.heap.size w w' := by
  have c0 := (((Below.refl w.heap.size w).alloc (Nat.le_refl _) (.cells #[.slice A n c, .slice B k d] 27)).alloc (by simp) (.cells #[.bool false, .bool false, .bool false, .bool false, .bool false, .bool false, .bool false, .bool false, .bool false, .bool false, .bool false, .bool false, .bool false, .bool false, .bool false, .bool false, .bool false, .bool false, .bool false, .bool false, .bool false, .bool false, .bool false, .bool false] 89)).alloc (by simp; omega) (.cells #[.bool false, .bool false, .bool false, .bool false, .bool false, .bool false, .bool false, .bool false, .bool false, .bool false, .bool false, .bool false, .bool false, .bool false, .bool false, .bool false, .bool false, .bool false, .bool false, .bool false, .bool false, .bool false, .bool false, .bool false] 89)
  have S1 := (Set24.new (w.alloc (.cells #[.slice A n c, .slice B k d] 27))).on ((Below.refl _ _).alloc (Nat.le_refl _) (.cells #[.bool false, .bool false, .bool false, .bool false, .bool false, .bool false, .bool false, .bool false, .bool false, .bool false, .bool false, .bool false, .bool false, .bool false, .bool false, .bool false, .bool false, .bool false, .bool false, .bool false, .bool false, .bool false, .bool false, .bool false] 89))
  have S2 := Set24.new ((w.alloc (.cells #[.slice A n c, .slice B k d] 27)).alloc (.cells #[.bool false, .bool false, .bool false, .bool false, .bool false, .bool false, .bool false, .bool false, .bool false, .bool false, .bool false, .bool false, .bool false, .bool false, .bool false, .bool false, .bool false, .bool false, .bool false, .bool false, .bool false, .bool false, .bool false, .bool false] 89))
  have k0 := ((Cell2.new w 27 (.slice A n c) (.slice B k d)).alloc (.cells #[.bool false, .bool false, .bool false, .bool false, .bool false, .bool false, .bool false, .bool false, .bool false, .bool false, .bool false, .bool false, .bool false, .bool false, .bool false, .bool false, .bool false, .bool false, .bool false, .bool false, .bool false, .bool false, .bool false, .bool false] 89)).alloc (.cells #[.bool false, .bool false, .bool false, .bool false, .bool false, .bool false, .bool false, .bool false, .bool false, .bool false, .bool false, .bool false, .bool false, .bool false, .bool false, .bool false, .bool false, .bool false, .bool false, .bool false, .bool false, .bool false, .bool false, .bool false] 89)
  simp only [World.size_alloc] at S1 S2
  have hA : ∀ a, 0 < n → A = some a → a.block < w.heap.size := fun a h0 e => by
    obtain ⟨ad, e', hlt, _⟩ := h.ps.2 h0
    rw [e] at e'; injection e' with e'; subst e'; exact hlt
  have HC := Lib.hid (walkB_any A B n c k d P D 131 #[.pointer (some ⟨w.heap.size + 1 + 1, 0, none⟩)] (w.heap.size + 1 + 1) x hT hL hn (enters_of Try.func131 (by kernel_rfl) rfl)
    (fun p w' => Set24 w' (w.heap.size + 1 + 1) (inN n p)) (fun _ => false) _
    (fun p w' y l hy _ hs => (mark24_any l (w.heap.size + 1 + 1) y (inN n p) w' hs (by omega)).mono (by
      rintro e w2 ⟨rfl, s2, g2⟩
      refine ⟨rfl, ?_, g2⟩
      unfold Set24 at *
      rw [s2, set24_congr (fun i _ => ?_)]
      unfold inN
      by_cases e : i = y
      · subst e; simp [hy]
      · have : (i == y) = false := by simpa using e
        simp [this]))
    (fun p q w' hpq hs => by
      unfold Set24 at *
      rw [hs, set24_congr (fun i _ => ?_)]
      unfold inN
      by_cases e : i < n
      · rw [hpq i e]
      · simp [e])
    (fun p w1 w2 hs hb => hs.on hb) (h.on c0) (by simp) (fun a h0 e => by have := hA a h0 e; omega) hxn
    (by unfold Set24 at *; rw [S2]; rw [set24_congr (fun i _ => ?_)]; simp [inN]))
  have C0 := Lib.hid c0
  obtain ⟨p0, p1⟩ := k0.cells
  have HS1 := Lib.hid S1
  have hmf : ∀ (fn : Fn) (first cap : Array Value) (w : World), (Instr.makeFunc fn first cap).run Try.prog w = .ok (.func fn first cap) w := fun _ _ _ _ => rfl
  clear c0 S1 S2 k0 h hA
  go_enter Try.func84, Try.ntmps84
  go_wp2_with fail
  refine HC.out.mono ?_
  have hfun : (fun i => false || und P x i) = und P x := by funext i; simp
  rw [hfun]
  clear hfun
  rintro e w1 ⟨rfl, s1, g1⟩
  have R1 := Lib.hid s1.range
  have T1 := Lib.hid (HS1.out.on' g1 (by omega)).there
  have G1 := Lib.hid g1
  have B1 := Lib.hid (C0.out.grown g1 C0.out.size (fun g e => by cases e; omega))
  clear s1 g1 p0 p1 HS1 HC C0 hmf
  have HZ := Lib.hid Try.info24
  have HU := Lib.hid Try.und24
  have HS := Lib.hid (set24_one (inN n (und P x)))
  go_wp2_with (first | (refine wpList_load_mid rfl 89 _ rfl (w.heap.size + 1 + 1) 0 rfl _ _ R1.out HU.out rfl HZ.out ?_) | (refine wpList_store_mid rfl 89 _ _ rfl (w.heap.size + 1) 0 _ rfl rfl T1.out HZ.out HS.out ?_))
  have RR := World.rangeAt_setCells_same w1 (w.heap.size + 1) 0 (set24 (inN n (und P x))).toList T1.out
  have HR := run_loadVar_mid (P := Try.prog) _ (w.heap.size + 1) 0 89 _ _ RR HU.out rfl HZ.out
  obtain ⟨f, hf⟩ : ∃ f : TypeId → Addr → Sem Value, f = loadVar := ⟨_, rfl⟩
  rw [← hf] at HR
  refine bodyPost_ret (v := .agg (set24 (inN n (und P x)))) (by unfold results; rw [← hf]; simp [Try.results84, go_sem, HR]) rfl ⟨rfl, below_setCells _ (by omega) _ _ _ B1.out⟩

theorem Set24.stored {w : World} {g : Nat} {p q : Nat → Bool} (h : Set24 w g p) : Set24 (w.setCells g 0 (set24 q).toList) g q := by
  unfold Set24 at *
  simp [set24, World.setCells, World.setCell, Array.getElem?_modify, h]

theorem hasAll_any (p : Nat → Bool) (N : Option Addr) (q e0 : Nat) (xs : List Int) (w : World) (hx : Ints w w.heap.size N q xs) (hq : q ≤ 1048576) (hr : ∀ x ∈ xs, 0 ≤ x ∧ x < 24) :
    Calls Try.prog 100 #[.agg (set24 p), .slice N q e0] w fun e w' => e = .returned (.bool (xs.all fun x => p x.toNat)) ∧ Below w.heap.size w w' := by
  have c0 := (Below.refl w.heap.size w).alloc (Nat.le_refl _) (.cells (set24 p) 89)
  have S0 : Hid (Set24 (w.alloc (.cells (set24 p) 89)) w.heap.size p) := Lib.hid (heap_alloc_new w _)
  have X0 := Lib.hid (hx.on c0)
  have C0 := Lib.hid c0
  have HR := Lib.hid hr
  have HL := Lib.hid hx.len
  clear c0 hr
  go_enter Try.func100, Try.ntmps100
  go_wp2
  go_loop [9] (fun i => ∃ j : Nat, j ≤ q ∧ i = .int .i64 j ∧ Hid ((xs.take j).all (fun x => p x.toNat) = true)) (fun i => q - (intOf i).toNat)
  case atStart => exact ⟨0, Nat.zero_le _, rfl, Lib.hid rfl⟩
  case round =>
    obtain ⟨j, hj, rfl, hall⟩ := hrel
    by_cases hlt : j < q
    · obtain ⟨ad, v, rfl, hab, hv, hc⟩ := X0.out.at_ hlt
      have hv2 := HR.out v (List.mem_of_getElem? hv)
      obtain ⟨u, rfl⟩ := Int.eq_ofNat_of_zero_le hv2.1
      have hu : u < 24 := by omega
      have hcu := S0.out.cell hu
      have HV := Lib.hid hv
      have i0 : (0 : Int) ≤ (u : Int) := by omega
      have i1 : (u : Int) < 24 := by omega
      clear hv hv2
      rcases hp : p u with _ | _
      · have HP := Lib.hid hp
        rw [hp] at hcu
        clear hp
        go_wp2
        go_ret
        exact ⟨ret_bool (not_all (p := fun x => p x.toNat) HV.out HP.out).symm, C0.out⟩
      · have HP := Lib.hid hp
        rw [hp] at hcu
        clear hp
        go_wp2
        go_round
        case rel => exact ⟨j + 1, by omega, by go_num, Lib.hid (by rw [take_all HV.out, hall.out]; exact HP.out)⟩
        case measure => simp [intOf]; omega
    · have HE : Hid (xs.all (fun x => p x.toNat) = true) := Lib.hid (by rw [← hall.out, take_end HL.out hlt])
      have HB := Lib.hid (ret_bool HE.out).symm
      go_wp2
      go_ret
      exact ⟨HB.out, C0.out⟩

theorem maxOf_any (a b : Int) (w : World) :
    Calls Try.prog 127 #[.int .i64 a, .int .i64 b] w fun e w' => e = .returned (.int .i64 (max a b)) ∧ w = w' := by
  by_cases h : a < b
  all_goals
    go_enter Try.func127, Try.ntmps127
    go_wp2
    go_ret
    exact ⟨ret_int (by omega), rfl⟩

theorem visitH_any (z l : Int) (x h : Nat) (w : World) (hc : Cell1 w h 2 (.int .i64 z)) :
    Calls Try.prog 126 #[.int .i64 (x : Int), .int .i64 l, .pointer (some ⟨h, 0, none⟩)] w fun e w' => e = .returned (.tuple #[]) ∧ Cell1 w' h 2 (.int .i64 (max z l)) ∧ w.grownBy w' (some h) := by
  have c0 := hc.cell
  have f0 := hc.thawed
  have HP := Lib.hid (hc.put (.int .i64 (max z l)))
  go_enter Try.func126, Try.ntmps126
  go_wp2_with (go_at_call 127; (with_reducible refine (maxOf_any _ _ _).mono ?_); rintro e w' ⟨rfl, rfl⟩)
  go_end0
  exact ⟨rfl, HP.out, grown_set (p := ⟨h, 0, none⟩) (World.grownBy.refl w _) rfl _⟩

end Go.Proofs.Ytnadcjclihflcaa
