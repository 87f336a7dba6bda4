/- Draws of chapter 7: a side system, a distance, a side code; what FnFamilies draws. -/
import Derived.Test.YtpabccgndhmcdaaDraw
import Derived.Test.YtpabccgndhmcdaaRow
import Derived.Test.YtpabccgndhmcdaaFill
namespace Go.Proofs.Ytpabccgndhmcdaa
open Go.RowKit

/-- what the draw of a side system answers -/
def DrawnSys (w : World) (B g : Nat) (A : Option Addr) (n c : Nat) (e : Ending) (w' : World) : Prop :=
  ∃ s v : Int, e = .returned (.tuple #[.int .i64 s, .int .i64 v]) ∧ 0 ≤ s ∧ s ≤ 6 ∧ 1 ≤ v ∧ v ≤ 6 ∧ Src w' B g A n c ∧ w.grownBy w' (some g)

set_option maxHeartbeats 1000000 in
theorem l07DrawSystem_any (B g : Nat) (A : Option Addr) (n c : Nat) (w : World) (h : Src w B g A n c) :
    Calls Try.prog 48 #[.pointer (some ⟨g, 0, none⟩)] w (DrawnSys w B g A n c) := by
  go_enter Try.func48, Try.ntmps48
  go_wp2_with fail
  refine (l01Next_any B g A n c _ _ h (by omega)).mono ?_
  rintro e w1 ⟨x, rfl, x0, x1, h1, g1⟩
  have x2 : x ≤ 3 := by omega
  clear x1 h
  go_wp2_with fail
  refine (l01Next_any B g A n c _ _ h1 (by omega)).mono ?_
  rintro e w2 ⟨y, rfl, y0, y1, h2, g2⟩
  have y2 : y ≤ 2 := by omega
  have G2 := grown_trans' g1 g2
  clear y1 h1 g1 g2
  go_wp2_with fail
  refine (l01Next_any B g A n c _ _ h2 (by omega)).mono ?_
  rintro e w3 ⟨r, rfl, r0, r1, h3, g3⟩
  have G3 := grown_trans' G2 g3
  clear r1 h2 G2 g3
  by_cases k0 : r = 0
  · have b0 : (r == 0) = true := by simpa using k0
    have HI := Lib.hid (ints_new w3 [0, 5, 6] 2)
    have HS := Lib.hid (h3.alloc (.cells ([0, 5, 6].map (Value.int .i64)).toArray 2))
    have HG := Lib.hid (grown_alloc G3 (.cells ([0, 5, 6].map (Value.int .i64)).toArray 2))
    have hlt := h3.lt
    clear k0 h3 G3
    go_wp2_with fail
    refine (l01Pick_any B g A n c _ _ _ _ _ HS.out HI.out (fun ad e => by injection e with e; subst e; simp; omega) (by simp) (by simp)).mono ?_
    rintro e w4 ⟨z, rfl, hz, h4, g4⟩
    have g5 := grown_trans' HG.out g4
    have z0 : 0 ≤ z ∧ z ≤ 6 := by
      simp only [List.mem_cons, List.mem_nil_iff, or_false] at hz
      omega
    obtain ⟨z0, z1⟩ := z0
    clear hz HI HS HG g4
    go_wp2
    go_ret2
    exact ⟨z, 2 + y, rfl, z0, z1, by omega, by omega, h4, g5⟩
  have b0 : (r == 0) = false := by simpa using k0
  by_cases k1 : r = 1
  · have b1 : (r == 1) = true := by simpa using k1
    have HI := Lib.hid (ints_new w3 [1, 5, 6] 2)
    have HS := Lib.hid (h3.alloc (.cells ([1, 5, 6].map (Value.int .i64)).toArray 2))
    have HG := Lib.hid (grown_alloc G3 (.cells ([1, 5, 6].map (Value.int .i64)).toArray 2))
    have hlt := h3.lt
    clear k0 k1 h3 G3
    go_wp2_with fail
    refine (l01Pick_any B g A n c _ _ _ _ _ HS.out HI.out (fun ad e => by injection e with e; subst e; simp; omega) (by simp) (by simp)).mono ?_
    rintro e w4 ⟨z, rfl, hz, h4, g4⟩
    have g5 := grown_trans' HG.out g4
    have z0 : 1 ≤ z ∧ z ≤ 6 := by
      simp only [List.mem_cons, List.mem_nil_iff, or_false] at hz
      omega
    obtain ⟨z0, z1⟩ := z0
    clear hz HI HS HG g4
    go_wp2
    go_ret2
    exact ⟨1 + x, z, rfl, by omega, by omega, z0, z1, h4, g5⟩
  · have b1 : (r == 1) = false := by simpa using k1
    clear k0 k1
    go_wp2
    go_ret2
    exact ⟨1 + x, 2 + y, rfl, by omega, by omega, by omega, by omega, h3, G3⟩

set_option maxHeartbeats 1000000 in
theorem l07DrawDistance_any (s : Int) (B g : Nat) (A : Option Addr) (n c : Nat) (w : World) (h : Src w B g A n c) (s0 : 0 ≤ s) (s1 : s ≤ 6) :
    Calls Try.prog 49 #[.pointer (some ⟨g, 0, none⟩), .int .i64 s] w (DrawnIn w B g A n c 0 7) := by
  go_enter Try.func49, Try.ntmps49
  go_wp2_with fail
  refine (l01Next_any B g A n c _ _ h (by omega)).mono ?_
  rintro e w1 ⟨r, rfl, r0, r1, h1, g1⟩
  clear r1 h
  by_cases k0 : r = 0
  · have b0 : (r == 0) = true := by simpa using k0
    have HI := Lib.hid (ints_new w1 [0, s, s + 1] 2)
    have HS := Lib.hid (h1.alloc (.cells ([0, s, s + 1].map (Value.int .i64)).toArray 2))
    have HG := Lib.hid (grown_alloc g1 (.cells ([0, s, s + 1].map (Value.int .i64)).toArray 2))
    have hlt := h1.lt
    clear k0 h1 g1
    go_wp2_with fail
    refine (l01Pick_any B g A n c _ _ _ _ _ HS.out HI.out (fun ad e => by injection e with e; subst e; simp; omega) (by simp) (by simp)).mono ?_
    rintro e w4 ⟨z, rfl, hz, h4, g4⟩
    have g5 := grown_trans' HG.out g4
    have z0 : 0 ≤ z ∧ z ≤ 7 := by
      simp only [List.mem_cons, List.mem_nil_iff, or_false] at hz
      omega
    obtain ⟨z0, z1⟩ := z0
    clear hz HI HS HG g4
    go_wp2
    go_ret
    exact ⟨z, rfl, z0, z1, h4, g5⟩
  · have b0 : (r == 0) = false := by simpa using k0
    clear k0
    go_wp2_with fail
    refine (l01Next_any B g A n c _ _ h1 (by omega)).mono ?_
    rintro e w2 ⟨y, rfl, y0, y1, h2, g2⟩
    have G2 := grown_trans' g1 g2
    have y2 : y ≤ 6 := by omega
    clear y1 g1 g2 h1
    go_wp2
    go_ret
    exact ⟨1 + y, rfl, by omega, by omega, h2, G2⟩

/-- a cell of a block that is not the source's is written -/
theorem setNew7 {w w' : World} {B g n c : Nat} {A : Option Addr} (h : Src w' B g A n c) (k : w.grownBy w' (some g)) {p : Addr} (hp : w.heap.size ≤ p.block) (hg : g < p.block) (v : Value) : Src (w'.setCell p v) B g A n c ∧ w.grownBy (w'.setCell p v) (some g) := by
  have k2 : w'.grownBy (w'.setCell p v) (some p.block) := grown_set (World.grownBy.refl _ _) rfl v
  exact ⟨h.apart k2 (fun q e => by injection e with e; omega), grown_own k k2 (fun q e => by injection e with e; omega)⟩

theorem row_capmax {w : World} {base t n m c : Nat} {A : Option Addr} {xs : List Value} (h : w.ownsRow base t 1 (.slice A m c) n xs) : c ≤ 9223372036854775807 := by
  rcases h.2 with ⟨e, _⟩ | ⟨g, cap, cur, e, _, _, _, hcm, _⟩
  · have e2 : c = 0 := congrArg capOf e
    omega
  · have e2 : c = cap := congrArg capOf e
    unfold maxLen at hcm
    omega
/-- what the draw of a code answers -/
def DrawnC7 (w : World) (B g : Nat) (A : Option Addr) (n c : Nat) (e : Ending) (w' : World) : Prop :=
  ∃ A' m c' xs, e = .returned (.slice A' m c') ∧ Own w' w.heap.size w'.heap.size A' m xs ∧ m ≤ 101 ∧ m ≤ c' ∧ c' ≤ 9223372036854775807 ∧ Src w' B g A n c ∧ w.grownBy w' (some g)

set_option maxHeartbeats 4000000 in
theorem l07DrawCode_any (s v : Int) (B g : Nat) (A : Option Addr) (n c : Nat) (w : World) (h : Src w B g A n c) (s0 : 0 ≤ s) (s1 : s ≤ 6) (v0 : 1 ≤ v) (v1 : v ≤ 6) :
    Calls Try.prog 50 #[.pointer (some ⟨g, 0, none⟩), .int .i64 s, .int .i64 v] w (DrawnC7 w B g A n c) := by
  have hg1 := h.lt
  obtain ⟨i0, hi, hz0, hz1, hz2⟩ := info_parts Try.info2'
  have HI := Lib.hid (And.intro hi (And.intro hz0 (And.intro hz1 hz2)))
  clear hi hz0 hz1 hz2
  have H1 := Lib.hid (h.alloc (.cells #[] 2))
  have R1 : Hid ((w.alloc (.cells #[] 2)).ownsRow w.heap.size 2 1 (.slice (some ⟨w.heap.size, 0, none⟩) 0 0) 0 (listI [])) := Lib.hid (row_empty (Nat.le_refl _))
  have G1 := Lib.hid (grown_alloc (World.grownBy.refl w (some g)) (.cells #[] 2))
  clear h
  go_enter Try.func50, Try.ntmps50
  go_wp2_with fail
  go_loopw [7, 8] (fun u m wr => ∃ (k : Nat) (xs : List Int), k ≤ 6 ∧ (k : Int) ≤ s ∧ xs.length = k ∧ m = .int .i64 (k : Int) ∧
      wr.ownsRow w.heap.size 2 1 u k (listI xs) ∧ Src wr B g A n c ∧ w.grownBy wr (some g) ∧ w.heap.size + 1 ≤ wr.heap.size) (fun _ m _ => (s - intOf m).toNat)
  case atStart => exact ⟨0, [], Nat.zero_le _, by omega, rfl, rfl, R1.out, H1.out, G1.out, by simp⟩
  case round =>
    obtain ⟨k, xs, hk, hkx, hxl, rfl, hown, hs, hgw, hw1⟩ := hrel
    have HO := Lib.hid hown
    have HX := Lib.hid hxl
    clear hown hxl R1 H1 G1
    by_cases hlt : (k : Int) < s
    · have S3 := Lib.hid hs
      clear hs
      go_wp2_with fail
      refine (l01Next_any B g A n c _ _ S3.out (by omega)).mono ?_
      rintro e w4 ⟨y, rfl, y0, y1, h4, g4⟩
      have O4 := Lib.hid (row_apart HO.out g4 hg1)
      have G4 := Lib.hid (grown_trans' hgw g4)
      have S4 := Lib.hid h4
      have hs4 := g4.size
      have hl4 := h4.lt
      clear HO g4 hgw S3 h4 y1
      go_wp2_with (at_builtin; refine wpList_append_lies _ rfl _ _ 24 rfl w.heap.size 2 i0 _ 1 8 Try.underlying24 HI.out.1 HI.out.2.1 HI.out.2.2.1 HI.out.2.2.2 rfl (by omega) _ k _ rfl (O4.out.alloc _) ⟨w4.heap.size, 0, none⟩ 1 1 [.int .i64 y] rfl rfl (World.news_of_block (cs := #[.int .i64 y]) (t := 2) (fr := (0, 0)) (heap_alloc_new w4 _)) (by simp [Value.oneCell']) (by omega) (by unfold maxLen; omega) (by omega) (by simp; omega) (w4.heap.size + 1) (by simp) ?_; intro gg cap w5 hown1 hgrow hat hlt3)
      have R5 := Lib.hid hown1
      have S5 := Lib.hid ((S4.out.alloc (.cells #[.int .i64 y] 2)).apart hgrow (fun q e => by have := row_base O4.out q e; omega))
      have G5 := Lib.hid (grown_own (grown_alloc G4.out (.cells #[.int .i64 y] 2)) hgrow (fun q e => row_base O4.out q e))
      have Z5 : w.heap.size + 1 ≤ w5.heap.size := by have := hgrow.size; simp at this; omega
      clear hown1 hgrow hat hlt3 O4 S4 G4
      go_wp2
      go_roundw
      case rel => exact ⟨k + 1, xs ++ [y], by omega, by omega, by rw [List.length_append, HX.out]; rfl, by go_num, by rw [← listI_snoc]; exact R5.out, S5.out, G5.out, Z5⟩
      case measure => simp [intOf]; omega
    · go_wp2_with fail
      refine (l01Next_any B g A n c _ _ hs (by omega)).mono ?_
      rintro e w3 ⟨q, rfl, q0, q1, h3, g3⟩
      have O3 := Lib.hid (row_apart HO.out g3 hg1)
      have G3 := Lib.hid (grown_trans' hgw g3)
      have hs3 := g3.size
      clear HO g3 hgw hs q1
      by_cases hq : q = 0
      · have b0 : (q == 0) = true := by simpa using hq
        have S3 := Lib.hid h3
        have hl3 := h3.lt
        clear hq h3
        go_wp2_with (at_builtin; refine wpList_append_lies _ rfl _ _ 24 rfl w.heap.size 2 i0 _ 1 8 Try.underlying24 HI.out.1 HI.out.2.1 HI.out.2.2.1 HI.out.2.2.2 rfl (by omega) _ k _ rfl (O3.out.alloc _) ⟨w3.heap.size, 0, none⟩ 1 1 [.int .i64 0] rfl rfl (World.news_of_block (cs := #[.int .i64 0]) (t := 2) (fr := (0, 0)) (heap_alloc_new w3 _)) (by simp [Value.oneCell']) (by omega) (by unfold maxLen; omega) (by omega) (by simp; omega) (w3.heap.size + 1) (by simp) ?_; intro gg cap w5 hown1 hgrow hat hlt3)
        have R5 := Lib.hid hown1
        have S5 := Lib.hid ((S3.out.alloc (.cells #[.int .i64 0] 2)).apart hgrow (fun q e => by have := row_base O3.out q e; omega))
        have G5 := Lib.hid (grown_own (grown_alloc G3.out (.cells #[.int .i64 0] 2)) hgrow (fun q e => row_base O3.out q e))
        have e5 : Hid (listI xs ++ [.int .i64 0] = listI (xs ++ [0])) := Lib.hid (listI_snoc _ _)
        have x5 : (xs ++ [0]).length = k + 1 := by rw [List.length_append, HX.out]; rfl
        obtain ⟨A2, c2, e2, ho⟩ := row_ints (xs := xs ++ [0]) (e5.out ▸ R5.out) x5
        obtain ⟨rfl, _, rfl⟩ := Value.slice.inj e2
        have HO := Lib.hid ho
        have hkc := row_cap R5.out
        have hkx := row_capmax R5.out
        clear ho hown1 hgrow hat hlt3 O3 S3 G3
        go_wp2
        go_ret
        exact ⟨_, k + 1, _, xs ++ [0], rfl, HO.out, by omega, hkc, hkx, S5.out, G5.out⟩
      · have b0 : (q == 0) = false := by simpa using hq
        clear hq
        obtain ⟨A', c', rfl, ho⟩ := row_ints O3.out HX.out
        have HO := Lib.hid ho
        have hkc := row_cap O3.out
        have hkx := row_capmax O3.out
        clear ho
        by_cases hq1 : q = 1
        · have b1 : (q == 1) = true := by simpa using hq1
          clear hq1
          by_cases hk0 : 0 < k
          · have HJ := Lib.hid (ints_new w3 [-1, v] 2)
            have HS := Lib.hid (h3.alloc (.cells ([-1, v].map (Value.int .i64)).toArray 2))
            have HG := Lib.hid (grown_alloc G3.out (.cells ([-1, v].map (Value.int .i64)).toArray 2))
            obtain ⟨ad, rfl, ha1, ha2, _⟩ := HO.out.2.2 hk0
            have hlt := h3.lt
            clear h3 G3 O3
            go_wp2_with fail
            refine (l01Pick_any B g A n c _ _ _ _ _ HS.out HJ.out (fun ad e => by injection e with e; subst e; simp; omega) (by simp) (by simp)).mono ?_
            rintro e w4 ⟨z, rfl, hz, h4, g4⟩
            have O4 := Lib.hid (HO.out.apart (grown_trans' (grown_alloc (World.grownBy.refl w3 (some g)) (.cells ([-1, v].map (Value.int .i64)).toArray 2)) g4) (fun q e => by injection e with e; omega))
            have G4 := Lib.hid (grown_trans' HG.out g4)
            have S4 := Lib.hid h4
            have hs4 := g4.size
            have hs5 : w3.heap.size < w4.heap.size := by simp at hs4; omega
            obtain ⟨_, v', e0, _, _, _, hf, hcell⟩ := O4.out.at_ hk0
            obtain rfl := (by injection e0 : ad = _)
            clear e0 HO HG HS HJ g4 h4 hz hs4
            have ea : ad.add 0 = ad := rfl
            rw [ea] at hf hcell
            have O5 := Lib.hid (show Own (w4.setCell ad (.int .i64 z)) _ _ _ _ _ from O4.out.put z hk0)
            obtain ⟨s5, g5⟩ := setNew7 S4.out G4.out (p := ad) ha1 (by omega) (.int .i64 z)
            have S5 := Lib.hid s5
            have G5 := Lib.hid g5
            clear s5 g5
            have z5 : (w4.setCell ad (.int .i64 z)).heap.size = w4.heap.size := by simp [World.setCell]
            go_wp2
            go_ret
            exact ⟨some ad, k, c', _, rfl, O5.out.more (Nat.le_refl _) (by rw [z5]; omega) (Nat.le_refl _), by omega, hkc, hkx, S5.out, G5.out⟩
          · go_wp2
            go_ret
            exact ⟨A', k, c', xs, rfl, HO.out, by omega, hkc, hkx, h3, G3.out⟩
        · have b1 : (q == 1) = false := by simpa using hq1
          clear hq1
          go_wp2
          go_ret
          exact ⟨A', k, c', xs, rfl, HO.out, by omega, hkc, hkx, h3, G3.out⟩

theorem resTmp4 {fn : Func} {t u v r : Tmp} (h : fn.results = #[.tmp t, .tmp u, .tmp v, .tmp r]) (tmps : Array Value) (P : Program) (w : World) :
    (results fn tmps).run P w = .ok (.tuple #[tmps.getD t undef, tmps.getD u undef, tmps.getD v undef, tmps.getD r undef]) w := by
  simp [results, h]

macro "go_ret4" : tactic => `(tactic|
  ((try simp only [Exit.inBlock, Exit.then]); refine bodyPost_ret (resTmp4 rfl _ _ _) rfl ?_))

/-- what the draw of three numbers and a code answers -/
def DrawnNF (w : World) (e : Ending) (w' : World) : Prop := ∃ (s v d : Int) (A' : Option Addr) (m c' : Nat) (xs : List Int), e = .returned (.tuple #[.int .i64 s, .int .i64 v, .int .i64 d, .slice A' m c']) ∧ Own w' w.heap.size w'.heap.size A' m xs ∧ m ≤ 101 ∧ m ≤ c' ∧ c' ≤ 9223372036854775807 ∧ Below w.heap.size w w'
def DrawnFO (w : World) (e : Ending) (w' : World) : Prop := ∃ s v d x : Int, e = .returned (.tuple #[.int .i64 s, .int .i64 v, .int .i64 d, .int .i64 x]) ∧ Below w.heap.size w w'
def DrawnISC (w : World) (e : Ending) (w' : World) : Prop := ∃ (s v : Int) (A' : Option Addr) (m c' : Nat) (xs : List Int), e = .returned (.tuple #[.int .i64 s, .int .i64 v, .slice A' m c']) ∧ Own w' w.heap.size w'.heap.size A' m xs ∧ m ≤ 101 ∧ m ≤ c' ∧ c' ≤ 9223372036854775807 ∧ Below w.heap.size w w'
def DrawnSV (w : World) (e : Ending) (w' : World) : Prop := ∃ s v : Int, e = .returned (.tuple #[.int .i64 s, .int .i64 v]) ∧ Below w.heap.size w w'
def DrawnSD (w : World) (e : Ending) (w' : World) : Prop := ∃ (s v : Int) (A1 : Option Addr) (m1 c1 : Nat) (xs : List Int) (A2 : Option Addr) (m2 c2 : Nat) (ys : List Int), e = .returned (.tuple #[.int .i64 s, .int .i64 v, .slice A1 m1 c1, .slice A2 m2 c2]) ∧ Own w' w.heap.size w'.heap.size A1 m1 xs ∧ m1 ≤ 101 ∧ m1 ≤ c1 ∧ c1 ≤ 9223372036854775807 ∧ Own w' w.heap.size w'.heap.size A2 m2 ys ∧ m2 ≤ 101 ∧ m2 ≤ c2 ∧ c2 ≤ 9223372036854775807 ∧ Below w.heap.size w w'

set_option maxHeartbeats 2000000 in
theorem drawNearestFamily_any (B : Nat) (A : Option Addr) (n c : Nat) (w : World) (hb : Bts w B A n) (hB : B ≤ w.heap.size) (hn : n ≤ 4096) :
    Calls Try.prog 14 #[.slice A n c] w (DrawnNF w) := by
  go_enter Try.func14, Try.ntmps14
  go_wp2_with fail
  refine (l01From_any B A n c _ hb hB hn).mono ?_
  rintro e w1 ⟨g, rfl, hg, hg1, h1, b1⟩
  have s1 := b1.size
  have B1 := Lib.hid b1
  clear b1
  go_wp2_with fail
  refine (l07DrawSystem_any B g A n c _ h1).mono ?_
  rintro e w2 ⟨s, v, rfl, s0, s6, v0, v6, h2, g2⟩
  have B2 := Lib.hid (below_grown B1.out g2 (fun q e => by injection e with e; omega))
  have z2 := g2.size
  clear B1 g2 h1
  go_wp2_with fail
  refine (l07DrawDistance_any s B g A n c _ h2 s0 s6).mono ?_
  rintro e w3 ⟨d, rfl, d0, d1, h3, g3⟩
  have B3 := Lib.hid (below_grown B2.out g3 (fun q e => by injection e with e; omega))
  have z3 := g3.size
  clear B2 g3 h2
  go_wp2_with fail
  refine (l07DrawCode_any s v B g A n c _ h3 s0 s6 v0 v6).mono ?_
  rintro e w4 ⟨A', m, c', xs, rfl, ho, hm, hmc, hmx, h4, g4⟩
  have b4 := below_grown B3.out g4 (fun q e => by injection e with e; omega)
  have HO := Lib.hid (ho.more (show w.heap.size ≤ w3.heap.size by omega) (Nat.le_refl _) (Nat.le_refl _))
  clear ho g4 h4
  go_wp2
  go_ret4
  exact ⟨s, v, d, A', m, c', xs, rfl, HO.out, hm, hmc, hmx, b4⟩

set_option maxHeartbeats 2000000 in
theorem drawFamiliesOf_any (B : Nat) (A : Option Addr) (n c : Nat) (w : World) (hb : Bts w B A n) (hB : B ≤ w.heap.size) (hn : n ≤ 4096) :
    Calls Try.prog 17 #[.slice A n c] w (DrawnFO w) := by
  go_enter Try.func17, Try.ntmps17
  go_wp2_with fail
  refine (l01From_any B A n c _ hb hB hn).mono ?_
  rintro e w1 ⟨g, rfl, hg, hg1, h1, b1⟩
  have s1 := b1.size
  have B1 := Lib.hid b1
  clear b1
  go_wp2_with fail
  refine (l07DrawSystem_any B g A n c _ h1).mono ?_
  rintro e w2 ⟨s, v, rfl, s0, s6, v0, v6, h2, g2⟩
  have B2 := Lib.hid (below_grown B1.out g2 (fun q e => by injection e with e; omega))
  have z2 := g2.size
  clear B1 g2 h1
  go_wp2_with fail
  refine (l07DrawDistance_any s B g A n c _ h2 s0 s6).mono ?_
  rintro e w3 ⟨d, rfl, d0, d1, h3, g3⟩
  have B3 := below_grown B2.out g3 (fun q e => by injection e with e; omega)
  have z3 := g3.size
  clear B2 g3 h2
  have HI := Lib.hid (ints_new w3 [0, 1, 5, 20, 60, 61, -1] 2)
  have HS := Lib.hid (h3.alloc (.cells ([0, 1, 5, 20, 60, 61, -1].map (Value.int .i64)).toArray 2))
  have HB3 := Lib.hid (B3.alloc (by omega) (.cells ([0, 1, 5, 20, 60, 61, -1].map (Value.int .i64)).toArray 2))
  have hlt := h3.lt
  clear B3 h3
  go_wp2_with fail
  refine (l01Pick_any B g A n c _ _ _ _ _ HS.out HI.out (fun ad e => by injection e with e; subst e; simp; omega) (by simp) (by simp)).mono ?_
  rintro e w4 ⟨x, rfl, hx, h4, g4⟩
  have b4 := below_grown HB3.out g4 (fun q e => by injection e with e; omega)
  clear hx h4 g4 HI HS
  go_wp2
  go_ret4
  exact ⟨s, v, d, x, rfl, b4⟩

set_option maxHeartbeats 2000000 in
theorem drawIsSideCode_any (B : Nat) (A : Option Addr) (n c : Nat) (w : World) (hb : Bts w B A n) (hB : B ≤ w.heap.size) (hn : n ≤ 4096) :
    Calls Try.prog 36 #[.slice A n c] w (DrawnISC w) := by
  go_enter Try.func36, Try.ntmps36
  go_wp2_with fail
  refine (l01From_any B A n c _ hb hB hn).mono ?_
  rintro e w1 ⟨g, rfl, hg, hg1, h1, b1⟩
  have s1 := b1.size
  have B1 := Lib.hid b1
  clear b1
  go_wp2_with fail
  refine (l07DrawSystem_any B g A n c _ h1).mono ?_
  rintro e w2 ⟨s, v, rfl, s0, s6, v0, v6, h2, g2⟩
  have B2 := Lib.hid (below_grown B1.out g2 (fun q e => by injection e with e; omega))
  have z2 := g2.size
  clear B1 g2 h1
  go_wp2_with fail
  refine (l07DrawCode_any s v B g A n c _ h2 s0 s6 v0 v6).mono ?_
  rintro e w4 ⟨A', m, c', xs, rfl, ho, hm, hmc, hmx, h4, g4⟩
  have b4 := below_grown B2.out g4 (fun q e => by injection e with e; omega)
  have HO := Lib.hid (ho.more (show w.heap.size ≤ w2.heap.size by omega) (Nat.le_refl _) (Nat.le_refl _))
  clear ho g4 h4
  go_wp2
  go_ret3
  exact ⟨s, v, A', m, c', xs, rfl, HO.out, hm, hmc, hmx, b4⟩

set_option maxHeartbeats 2000000 in
theorem drawCountSides_any (B : Nat) (A : Option Addr) (n c : Nat) (w : World) (hb : Bts w B A n) (hB : B ≤ w.heap.size) (hn : n ≤ 4096) :
    Calls Try.prog 31 #[.slice A n c] w (DrawnSV w) := by
  go_enter Try.func31, Try.ntmps31
  go_wp2_with fail
  refine (l01From_any B A n c _ hb hB hn).mono ?_
  rintro e w1 ⟨g, rfl, hg, hg1, h1, b1⟩
  have s1 := b1.size
  have B1 := Lib.hid b1
  clear b1
  go_wp2_with fail
  refine (l07DrawSystem_any B g A n c _ h1).mono ?_
  rintro e w2 ⟨s, v, rfl, s0, s6, v0, v6, h2, g2⟩
  have B2 := below_grown B1.out g2 (fun q e => by injection e with e; omega)
  clear B1 g2 h1
  go_wp2
  go_ret2
  exact ⟨s, v, rfl, B2⟩

set_option maxHeartbeats 2000000 in
theorem drawSideDistance_any (B : Nat) (A : Option Addr) (n c : Nat) (w : World) (hb : Bts w B A n) (hB : B ≤ w.heap.size) (hn : n ≤ 4096) :
    Calls Try.prog 29 #[.slice A n c] w (DrawnSD w) := by
  go_enter Try.func29, Try.ntmps29
  go_wp2_with fail
  refine (l01From_any B A n c _ hb hB hn).mono ?_
  rintro e w1 ⟨g, rfl, hg, hg1, h1, b1⟩
  have s1 := b1.size
  have B1 := Lib.hid b1
  clear b1
  go_wp2_with fail
  refine (l07DrawSystem_any B g A n c _ h1).mono ?_
  rintro e w2 ⟨s, v, rfl, s0, s6, v0, v6, h2, g2⟩
  have B2 := Lib.hid (below_grown B1.out g2 (fun q e => by injection e with e; omega))
  have z2 := g2.size
  have l2 := h2.lt
  clear B1 g2 h1
  go_wp2_with fail
  refine (l07DrawCode_any s v B g A n c _ h2 s0 s6 v0 v6).mono ?_
  rintro e w3 ⟨A1, m1, c1, xs, rfl, o1, hm1, hmc1, hmx1, h3, g3⟩
  have B3 := Lib.hid (below_grown B2.out g3 (fun q e => by injection e with e; omega))
  have z3 := g3.size
  have O1 := Lib.hid (o1)
  clear B2 g3 h2 o1
  go_wp2_with fail
  refine (l07DrawCode_any s v B g A n c _ h3 s0 s6 v0 v6).mono ?_
  rintro e w4 ⟨A2, m2, c2, ys, rfl, o2, hm2, hmc2, hmx2, h4, g4⟩
  have b4 := below_grown B3.out g4 (fun q e => by injection e with e; omega)
  have z4 := g4.size
  have H1 := Lib.hid ((O1.out.apart g4 (fun q e => by injection e with e; omega)).more (show w.heap.size ≤ w2.heap.size by omega) z4 (Nat.le_refl _))
  have H2 := Lib.hid (o2.more (show w.heap.size ≤ w3.heap.size by omega) (Nat.le_refl _) (Nat.le_refl _))
  clear o2 O1 g4 h4
  go_wp2
  go_ret4
  exact ⟨s, v, A1, m1, c1, xs, A2, m2, c2, ys, rfl, H1.out, hm1, hmc1, hmx1, H2.out, hm2, hmc2, hmx2, b4⟩

end Go.Proofs.Ytpabccgndhmcdaa
