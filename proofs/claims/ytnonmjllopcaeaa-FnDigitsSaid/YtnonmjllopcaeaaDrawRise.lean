/- The draw for IsRising. -/
import Derived.Test.YtnonmjllopcaeaaDrawChoose
import Derived.Deep.AppendLies
namespace Go.Proofs.Ytnonmjllopcaeaa
open Go.RowKit

def listI (xs : List Int) : List Value := xs.map (Value.int .i64)
theorem listI_snoc (xs : List Int) (v : Int) : listI xs ++ [.int .i64 v] = listI (xs ++ [v]) := by simp [listI]
theorem row_base {w : World} {base t n : Nat} {v : Value} {xs : List Value} (h : w.ownsRow base t 1 v n xs) : ∀ k, v.ownBlock = some k → base ≤ k := by
  intro k hk
  rcases h.2 with ⟨rfl, _⟩ | ⟨g, cap, cur, rfl, hb, _⟩
  · cases hk
  · have : g = k := by simpa [Value.ownBlock] using hk
    omega
theorem row_apart {w w' : World} {base t n g : Nat} {v : Value} {xs : List Value} (h : w.ownsRow base t 1 v n xs) (hg : w.grownBy w' (some g)) (hlt : g < base) : w'.ownsRow base t 1 v n xs :=
  h.kept hg (by
    rcases hv : v.ownBlock with _ | k
    · exact .inl rfl
    · refine .inr (fun e => ?_)
      have := row_base h k hv
      injection e with e
      omega)
theorem row_empty {w : World} {base t : Nat} (hb : base ≤ w.heap.size) : (w.alloc (.cells #[] t)).ownsRow base t 1 (.slice (some ⟨w.heap.size, 0, none⟩) 0 0) 0 [] :=
  ⟨rfl, .inr ⟨w.heap.size, 0, #[], rfl, hb, heap_alloc_new w _, Nat.le_refl _, by unfold maxLen; omega, rfl, rfl⟩⟩
theorem row_ints {w : World} {base t n : Nat} {v : Value} {xs : List Int} (h : w.ownsRow base t 1 v n (listI xs)) (hl : xs.length = n) : ∃ A c, v = .slice A n c ∧ Own w base w.heap.size A n xs := by
  rcases h.2 with ⟨rfl, rfl⟩ | ⟨g, cap, cur, rfl, hb, hg, hnc, hcm, hcs, htk⟩
  · obtain rfl := List.eq_nil_of_length_eq_zero hl
    exact ⟨none, 0, rfl, Own.nil _ (Nat.le_refl _)⟩
  · have hlt : g < w.heap.size := lt_of_heap hg
    refine ⟨_, _, rfl, hl, Nat.le_refl _, fun _ => ⟨_, rfl, hb, hlt, fun j u hu => ?_⟩⟩
    have hc := h.cells (g := g) rfl j (.int .i64 u) (by unfold listI; rw [List.getElem?_map, hu]; rfl)
    refine ⟨?_, hc⟩
    unfold Addr.add
    split <;> simp [World.frozen?, hg]
theorem Src.apart {w w' : World} {B g n c : Nat} {A : Option Addr} {row : Option Nat} (h : Src w B g A n c) (hg : w.grownBy w' row) (hr : ∀ k, row = some k → g < k) : Src w' B g A n c := by
  obtain ⟨h1, h2, h3, p, s, hp, s0, s1, hh⟩ := h
  refine ⟨h1, h2, fun hn => ?_, p, s, hp, s0, s1, (hg.block g (lt_of_heap hh) (fun e => by have := hr g e.symm; omega)).trans hh⟩
  obtain ⟨ad, e, hb, hc⟩ := h3 hn
  refine ⟨ad, e, hb, fun j hj => ?_⟩
  obtain ⟨u, u0, u1, hu⟩ := hc j hj
  exact ⟨u, u0, u1, hg.cell hu (by rw [block_of_add]; intro e; have := hr _ e.symm; omega)⟩

/-- what the draw of a list and a small number answers -/
def DrawnList (w : World) (e : Ending) (w' : World) : Prop :=
  ∃ A n c xs m, e = .returned (.tuple #[.slice A n c, .int .i64 m]) ∧ Ints w' w'.heap.size A n xs ∧ n ≤ 1000 ∧ -1000 ≤ m ∧ m ≤ 1000 ∧ Below w.heap.size w w'

set_option maxHeartbeats 4000000 in
theorem drawRise_any (B : Nat) (A : Option Addr) (n c : Nat) (w : World) (hb : Bts w B A n) (hB : B ≤ w.heap.size) (hn : n ≤ 4096) :
    Calls Try.prog 21 #[.slice A n c] w (DrawnList w) := by
  have HB := Lib.hid hb
  clear hb
  obtain ⟨i0, hi, hz0, hz1, hz2⟩ := info_parts Try.info2'
  have HI := Lib.hid (And.intro hi (And.intro hz0 (And.intro hz1 hz2)))
  clear hi hz0 hz1 hz2
  go_enter Try.func21, Try.ntmps21
  go_wp2_with fail
  refine (l01From_any B A n c _ HB.out hB hn).mono ?_
  rintro e w1 ⟨g, rfl, hg, hg1, h1, b1⟩
  have s1 := b1.size
  have H1 := Lib.hid (h1.on ((Below.refl w1.heap.size w1).alloc (Nat.le_refl _) (.cells #[] 2)) (by omega))
  have R1 : Hid ((w1.alloc (.cells #[] 2)).ownsRow w1.heap.size 2 1 (.slice (some ⟨w1.heap.size, 0, none⟩) 0 0) 0 (listI [])) := Lib.hid (row_empty (Nat.le_refl _))
  have B1 := Lib.hid (b1.alloc s1 (.cells #[] 2))
  clear h1 b1
  go_wp2_with fail
  refine (l01Next_any B g A n c _ _ H1.out (by omega)).mono ?_
  rintro e w2 ⟨x, rfl, x0, x1, h2, gr2⟩
  have R2 := Lib.hid (row_apart R1.out gr2 hg1)
  have b2 := below_grown B1.out gr2 (fun q e => by injection e with e; omega)
  have s2 := b2.size
  have HZ2 : Hid ((w1.alloc (.cells #[] 2)).heap.size ≤ w2.heap.size) := Lib.hid gr2.size
  clear H1 R1 B1 gr2
  have x2 : x ≤ 2 := by omega
  clear x1
  go_wp2_with fail
  refine (l01Next_any B g A n c _ _ h2 (by omega)).mono ?_
  rintro e w3 ⟨y, rfl, y0, y1, h3, gr3⟩
  have R3 := Lib.hid (row_apart R2.out gr3 hg1)
  have b3 := below_grown b2 gr3 (fun q e => by injection e with e; omega)
  have y2 : y ≤ 19 := by omega
  have HZ3 : Hid ((w1.alloc (.cells #[] 2)).heap.size ≤ w3.heap.size) := Lib.hid (by have := HZ2.out; have := gr3.size; omega)
  clear R2 gr3 h2 b2 y1
  go_wp2_with fail
  refine (l01Next_any B g A n c _ _ h3 (by omega)).mono ?_
  rintro e w4 ⟨z, rfl, z0, z1, h4, gr4⟩
  have R4 := Lib.hid (row_apart R3.out gr4 hg1)
  have b4 := below_grown b3 gr4 (fun q e => by injection e with e; omega)
  have s4 := b4.size
  have z2 : z ≤ 4 := by omega
  have HL : Hid ((w1.alloc (.cells #[] 2)).heap.size ≤ w4.heap.size) := Lib.hid (by have := HZ3.out; have := gr4.size; omega)
  clear R3 gr4 h3 b3 z1
  go_wp2_with fail
  go_loopw [5, 6, 7] (fun v a m wr => ∃ (k : Nat) (xs : List Int) (at_ : Int), k ≤ 4 ∧ (k : Int) ≤ z ∧ xs.length = k ∧ m = .int .i64 (z - k) ∧ a = .int .i64 at_ ∧ -1 - 20 * (k : Int) ≤ at_ ∧ at_ ≤ 2 + 20 * (k : Int) ∧
      wr.ownsRow w1.heap.size 2 1 v k (listI xs) ∧ Src wr B g A n c ∧ Below w.heap.size w wr ∧ w1.heap.size + 1 ≤ wr.heap.size) (fun _ _ m _ => (intOf m).toNat)
  case atStart =>
    refine ⟨0, [], _, Nat.zero_le _, by omega, rfl, by go_num, rfl, by omega, by omega, R4.out, h4, b4, ?_⟩
    simpa using HL.out
  case round =>
    obtain ⟨k, xs, at_, hk, hkz, hxl, rfl, rfl, a0, a1, hown, hs, hb, hw1⟩ := hrel
    have HO := Lib.hid hown
    have HS := Lib.hid hs
    have HX := Lib.hid hxl
    have HBl := Lib.hid hb
    have hsz := hb.size
    have hgw := hs.lt
    clear hown hs hxl hb R4 h4 b4
    by_cases hlt : (k : Int) < z
    · go_wp2_with (at_builtin; refine wpList_append_lies _ rfl _ _ 24 rfl w1.heap.size 2 i0 _ 1 8 Try.underlying24 HI.out.1 HI.out.2.1 HI.out.2.2.1 HI.out.2.2.2 rfl (by omega) _ k _ rfl (HO.out.alloc _) ⟨wr.heap.size, 0, none⟩ 1 1 [.int .i64 at_] rfl rfl (World.news_of_block (cs := #[.int .i64 at_]) (t := 2) (fr := (0, 0)) (heap_alloc_new wr _)) (by simp [Value.oneCell']) (by omega) (by unfold maxLen; omega) (by omega) (by simp; omega) (wr.heap.size + 1) (by simp) ?_; intro gg cap w5 hown1 hgrow hat hlt3)
      have R5 := Lib.hid hown1
      have S5 := (HS.out.on ((Below.refl wr.heap.size wr).alloc (Nat.le_refl _) (.cells #[.int .i64 at_] 2)) (by omega)).apart hgrow (fun q e => by have := row_base HO.out q e; omega)
      have B5 := (HBl.out.alloc hsz (.cells #[.int .i64 at_] 2)).grown hgrow (by simp; omega) (fun q e => by have := row_base HO.out q e; omega)
      have Z5 : w1.heap.size + 1 ≤ w5.heap.size := by have := hgrow.size; simp at this; omega
      clear hown1 hgrow hat hlt3 HO HS HBl
      refine (l01Next_any B g A n c _ _ S5 (by omega)).mono ?_
      rintro e w6 ⟨p, rfl, p0, p1, S6, gr6⟩
      have R6 := Lib.hid (row_apart R5.out gr6 hg1)
      have B6 := below_grown B5 gr6 (fun q e => by injection e with e; omega)
      have Z6 : w1.heap.size + 1 ≤ w6.heap.size := by have := gr6.size; omega
      have p2 : p ≤ 2 := by omega
      clear R5 B5 gr6 S5 Z5 p1
      go_wp2_with fail
      refine (l01Next_any B g A n c _ _ S6 (by omega)).mono ?_
      rintro e w7 ⟨q, rfl, q0, q1, S7, gr7⟩
      have R7 := Lib.hid (row_apart R6.out gr7 hg1)
      have B7 := Lib.hid (below_grown B6 gr7 (fun q e => by injection e with e; omega))
      have Z7 : w1.heap.size + 1 ≤ w7.heap.size := by have := gr7.size; omega
      have q2 : q ≤ 11 := by omega
      have S7 := Lib.hid S7
      clear R6 B6 gr7 S6 Z6 q1
      go_wp2
      go_roundw
      case rel =>
        refine ⟨k + 1, xs ++ [at_], _, by omega, by omega, by rw [List.length_append, HX.out]; rfl, by go_num, rfl, ?_, ?_, ?_, S7.out, B7.out, Z7⟩
        · omega
        · omega
        · rw [← listI_snoc]; exact R7.out
      case measure => simp [intOf]; omega
    · have S5 := HS.out
      have B5 := HBl.out
      have R5 := HO
      clear HS HBl HO
      go_wp2_with fail
      refine (l01Next_any B g A n c _ _ S5 (by omega)).mono ?_
      rintro e w6 ⟨p, rfl, p0, p1, S6, gr6⟩
      have R6 := Lib.hid (row_apart R5.out gr6 hg1)
      have B6 := Lib.hid (below_grown B5 gr6 (fun q e => by injection e with e; omega))
      have p2 : p ≤ 2 := by omega
      clear R5 B5 gr6 S5 p1 S6
      obtain ⟨A', c', rfl, ho⟩ := row_ints R6.out HX.out
      have HO := Lib.hid ho
      clear ho
      go_wp2
      go_ret2
      exact ⟨A', k, c', xs, _, rfl, HO.out.ints, by omega, by omega, by omega, B6.out⟩

end Go.Proofs.Ytnonmjllopcaeaa
