/- HeightOf and CommonGroup of the program. -/
import Derived.Test.YtnadcjclihflcaaBldN
namespace Go.Proofs.Ytnadcjclihflcaa
open Go Go.RowKit

theorem hg_yes {P : List Int} {D : List Bool} (h : bldB P D = true) : hgV P D = (higN P : Int) ∧ bdE P D = 0 := by unfold hgV bdE; rw [h]; exact ⟨rfl, rfl⟩
theorem hg_no {P : List Int} {D : List Bool} (h : bldB P D = false) : hgV P D = 0 ∧ bdE P D = 1 := by unfold hgV bdE; rw [h]; exact ⟨rfl, rfl⟩
theorem cast_max (a b : Nat) : max (a : Int) (b : Int) = ((max a b : Nat) : Int) := by omega
theorem inN_add {n y : Nat} (hy : y < n) (p : Nat → Bool) : inN n (fun i => p i || i == y) = fun i => inN n p i || i == y := by
  funext i
  unfold inN
  by_cases e : i = y
  · subst e; simp [hy]
  · have : (i == y) = false := by simpa using e
    simp [this]

set_option maxHeartbeats 1000000 in
theorem heightOf_any (A B : Option Addr) (n c k d : Nat) (P : List Int) (D : List Bool) (w : World) (h : Bld w A n B k P D) (hn : n ≤ 1048576) (hk : k ≤ 1048576) :
    Calls Try.prog 74 #[.agg #[.slice A n c, .slice B k d]] w fun e w' => e = .returned (.tuple #[.int .i64 (hgV P D), .int .i64 (bdE P D)]) ∧ Below w.heap.size w w' := by
  have c0 := (Below.refl w.heap.size w).alloc (Nat.le_refl _) (.cells #[.slice A n c, .slice B k d] 27)
  have h0 := Lib.hid (h.on c0)
  have C0 := Lib.hid c0
  have K0 := Lib.hid (Cell2.new w 27 (.slice A n c) (.slice B k d))
  have H := Lib.hid h
  obtain ⟨p0, p1⟩ := K0.out.cells
  have hmf : ∀ (fn : Fn) (first cap : Array Value) (w : World), (Instr.makeFunc fn first cap).run Try.prog w = .ok (.func fn first cap) w := fun _ _ _ _ => rfl
  clear c0 h
  have HE := Lib.hid (codB_none P D)
  rcases hb : bldB P D with _ | _
  · obtain ⟨e1, e2⟩ := hg_no hb
    rw [e1, e2]
    rw [e2] at HE
    clear hb e1 e2
    go_enter Try.func74, Try.ntmps74
    go_wp2_with fail
    refine (codeForB_any A B none n c k d 0 0 P D [] _ h0.out ⟨rfl, fun h => absurd h (by omega)⟩ hn hk (by omega)).mono ?_
    rw [HE.out]
    rintro e w1 ⟨rfl, b1⟩
    have C1 := Lib.hid (C0.out.trans (b1.mono C0.out.size))
    clear b1
    go_wp2
    go_ret2
    exact ⟨rfl, C1.out⟩
  obtain ⟨e1, e2⟩ := hg_yes hb
  rw [e1, e2]
  rw [e2] at HE
  obtain ⟨hT, n2, n24, _⟩ := bld_tree hb
  have HL := H.out.ps.len
  rw [HL] at n2 n24
  have HT := Lib.hid hT
  have HH : Hid (maxTo (depN P) (inN n (fun i => false || und P 0 i)) n = higN P) := Lib.hid (by
    unfold higN
    rw [HL]
    exact maxTo_congr n (fun i hi => by unfold inN; simp [hi, und_zero hT (show i < P.length by rw [HL]; exact hi)]))
  have HD0 := Lib.hid (dep_root hT)
  have HLL := Lib.hid HL
  clear hb e1 e2 hT HL
  go_enter Try.func74, Try.ntmps74
  go_wp2_with fail
  refine (codeForB_any A B none n c k d 0 0 P D [] _ h0.out ⟨rfl, fun h => absurd h (by omega)⟩ hn hk (by omega)).mono ?_
  rw [HE.out]
  rintro e w1 ⟨rfl, b1⟩
  have C1 := Lib.hid ((C0.out.trans (b1.mono C0.out.size)).alloc (Nat.le_trans C0.out.size b1.size) (.cells #[.int .i64 0] 2))
  have H1 := Lib.hid (H.out.on C1.out)
  have K1 := Lib.hid ((K0.out.on b1).alloc (.cells #[.int .i64 0] 2))
  have Z1 := Cell1.new w1 2 (.int .i64 0)
  have hA : ∀ a, 0 < n → A = some a → a.block < w.heap.size := fun a h0 e => by
    obtain ⟨ad, e', hlt, _⟩ := H.out.ps.2 h0
    rw [e] at e'; injection e' with e'; subst e'; exact hlt
  have sz1 : w.heap.size ≤ w1.heap.size := Nat.le_trans C0.out.size b1.size
  have HC := Lib.hid (walkB_any A B n c k d P D 126 #[.pointer (some ⟨w1.heap.size, 0, none⟩)] w1.heap.size 0 HT.out HLL.out n24 (enters_of Try.func126 (by kernel_rfl) rfl)
    (fun p w' => Cell1 w' w1.heap.size 2 (.int .i64 (maxTo (depN P) (inN n p) n : Nat))) (fun _ => false) _
    (fun p w' y l hy hl hs => (visitH_any _ l y w1.heap.size w' hs).mono (by
      rintro e w2 ⟨rfl, s2, g2⟩
      refine ⟨rfl, ?_, g2⟩
      rw [HD0.out] at hl
      rw [inN_add hy, maxTo_add hy, ← cast_max]
      have e0 : l = (depN P y : Int) := by omega
      rw [e0] at s2
      exact s2))
    (fun p q w' hpq hs => by
      rw [maxTo_congr (q := inN n p) n (fun i hi => by unfold inN; rw [hpq i hi])]
      exact hs)
    (fun p w1 w2 hs hb => hs.on hb) H1.out (by simp) (fun a h0 e => by have := hA a h0 e; omega) (by omega)
    (by
      have : maxTo (depN P) (inN n fun _ => false) n = 0 := by
        rw [maxTo_congr (q := fun _ => false) n (fun i _ => by unfold inN; simp)]
        exact maxTo_none n
      rw [this]
      exact Z1))
  clear Z1 b1 hA p0 p1
  obtain ⟨p0, p1⟩ := K1.out.cells
  go_wp2_with fail
  refine HC.out.mono ?_
  rw [HH.out]
  rintro e w2 ⟨rfl, s2, g2⟩
  have q0 := s2.cell
  have C2 := Lib.hid (C1.out.grown g2 C1.out.size (fun g e => by cases e; omega))
  clear s2 g2 p0 p1 HC
  go_wp2
  go_ret2
  exact ⟨rfl, C2.out⟩

theorem cg_code {P : List Int} {D : List Bool} {xs : List Int} (h : codB P D xs ≠ 0) : cgE P D xs = codB P D xs ∧ cgV P D xs = 0 := by
  have e : cgE P D xs = codB P D xs := by
    unfold codB cgE at *
    revert h
    rcases bldB P D with _ | _
    · intro _; rfl
    · rcases nodesB P xs with _ | _
      · intro _; rfl
      · intro h; exact absurd rfl h
  refine ⟨e, ?_⟩
  unfold cgV
  rw [e, if_neg h]
theorem cod_zero {P : List Int} {D : List Bool} {xs : List Int} (h : codB P D xs = 0) : bldB P D = true ∧ nodesB P xs = true := by
  unfold codB at h
  rcases hb : bldB P D with _ | _
  · rw [hb] at h; cases h
  · rw [hb] at h
    rcases hq : nodesB P xs with _ | _
    · rw [hq] at h; cases h
    · exact ⟨rfl, rfl⟩
theorem cg_len {P : List Int} {D : List Bool} {xs : List Int} (h : codB P D xs = 0) (hl : inB xs.length 1 24 = false) : cgE P D xs = 2 ∧ cgV P D xs = 0 := by
  obtain ⟨h1, h2⟩ := cod_zero h
  have e : cgE P D xs = 2 := by unfold cgE; rw [h1, h2, hl]; rfl
  refine ⟨e, ?_⟩
  unfold cgV; rw [e]; rfl
theorem cg_yes {P : List Int} {D : List Bool} {xs : List Int} (h : codB P D xs = 0) (hl : inB xs.length 1 24 = true) : cgE P D xs = 0 ∧ cgV P D xs = (comN P xs : Int) := by
  obtain ⟨h1, h2⟩ := cod_zero h
  have e : cgE P D xs = 0 := by unfold cgE; rw [h1, h2, hl]; rfl
  refine ⟨e, ?_⟩
  unfold cgV; rw [e]; rfl
theorem nodesB_at {P xs : List Int} (h : nodesB P xs = true) {x : Int} (hx : x ∈ xs) : 0 ≤ x ∧ x < P.length := by
  unfold nodesB at h
  rw [List.all_eq_true] at h
  have := h x hx
  rw [inB_true] at this
  omega
theorem allU_in {P xs : List Int} {n g : Nat} (hP : P.length = n) (h : nodesB P xs = true) : (xs.all fun x => inN n (und P g) x.toNat) = allU P xs g := by
  unfold allU
  have : ∀ (ys : List Int), (∀ y ∈ ys, y.toNat < n) → (ys.all fun x => inN n (und P g) x.toNat) = ys.all fun x => und P g x.toNat := by
    intro ys
    induction ys with
    | nil => intro _; rfl
    | cons y r ih =>
      intro hy
      rw [List.all_cons, List.all_cons, ih (fun z hz => hy z (List.mem_cons_of_mem _ hz))]
      unfold inN
      have := hy y List.mem_cons_self
      simp [this]
  exact this xs (fun y hy => by have := nodesB_at h hy; omega)

set_option maxHeartbeats 1000000 in
theorem commonGroup_any (A B N : Option Addr) (n c k d q e0 : Nat) (P : List Int) (D : List Bool) (xs : List Int) (w : World) (h : Bld w A n B k P D) (hx : Ints w w.heap.size N q xs) (hn : n ≤ 1048576) (hk : k ≤ 1048576) (hq : q ≤ 1048576) :
    Calls Try.prog 76 #[.agg #[.slice A n c, .slice B k d], .slice N q e0] w fun e w' => e = .returned (.tuple #[.int .i64 (cgV P D xs), .int .i64 (cgE P D xs)]) ∧ Below w.heap.size w w' := by
  have c0 := (Below.refl w.heap.size w).alloc (Nat.le_refl _) (.cells #[.slice A n c, .slice B k d] 27)
  have h0 := Lib.hid (h.on c0)
  have x0 := Lib.hid (hx.on c0)
  have C0 := Lib.hid c0
  have K0 := Lib.hid (Cell2.new w 27 (.slice A n c) (.slice B k d))
  have H := Lib.hid h
  have HX := Lib.hid hx
  obtain ⟨p0, p1⟩ := K0.out.cells
  clear c0 h hx
  obtain ⟨z, hz⟩ : ∃ z, codB P D xs = z := ⟨_, rfl⟩
  by_cases hz0 : z = 0
  rotate_left
  · obtain ⟨e1, e2⟩ := cg_code (by rw [hz]; exact hz0)
    rw [hz] at e1
    rw [e1, e2]
    have HZ := Lib.hid hz
    have ht : (z != 0) = true := by simpa using hz0
    clear hz e1 e2 hz0
    go_enter Try.func76, Try.ntmps76
    go_wp2_with fail
    refine (codeForB_any A B N n c k d q e0 P D xs _ h0.out x0.out hn hk hq).mono ?_
    rw [HZ.out]
    rintro e w1 ⟨rfl, b1⟩
    have C1 := Lib.hid (C0.out.trans (b1.mono C0.out.size))
    clear b1 p0 p1
    go_wp2
    go_ret2
    exact ⟨rfl, C1.out⟩
  subst hz0
  have HZ := Lib.hid hz
  have HQ := Lib.hid HX.out.len
  rcases hl : inB (q : Int) 1 24 with _ | _
  · obtain ⟨e1, e2⟩ := cg_len hz (by rw [HQ.out]; exact hl)
    rw [e1, e2]
    clear hz e1 e2
    go_enter Try.func76, Try.ntmps76
    go_wp2_with fail
    refine (codeForB_any A B N n c k d q e0 P D xs _ h0.out x0.out hn hk hq).mono ?_
    rw [HZ.out]
    rintro e w1 ⟨rfl, b1⟩
    have C1 := Lib.hid (C0.out.trans (b1.mono C0.out.size))
    clear b1 p0 p1
    go_wp2_with (go_at_call 96; (with_reducible refine (isWithin_any _ _ _ _).mono ?_); rintro e w' ⟨rfl, rfl⟩)
    go_ret2
    exact ⟨rfl, C1.out⟩
  obtain ⟨e1, e2⟩ := cg_yes hz (by rw [HQ.out]; exact hl)
  rw [e1, e2]
  obtain ⟨hB, hN⟩ := cod_zero hz
  obtain ⟨hT, n2, n24, _⟩ := bld_tree hB
  have HL := Lib.hid H.out.ps.len
  rw [HL.out] at n2 n24
  have HT := Lib.hid hT
  have HN := Lib.hid hN
  have hl' := inB_true.1 hl
  have hq0 : 0 < q := by omega
  obtain ⟨na, v0, rfl, _, hv0, _⟩ := HX.out.at_ hq0
  obtain ⟨v00, v01⟩ := nodesB_at hN (List.mem_of_getElem? hv0)
  obtain ⟨x, rfl⟩ := Int.eq_ofNat_of_zero_le v00
  have hxn : x < n := by rw [HL.out] at v01; omega
  have hstart : Hid (∀ i, allU P xs i = true → i ∈ ancN P x) := Lib.hid (fun i hi => by have := allU_mem hi (List.mem_of_getElem? hv0); simpa using this)
  have HV := Lib.hid hv0
  have hq1 : (0 : Int) < (q : Int) := by omega
  clear hz e1 e2 hB hN hT hl' v00 v01 hv0
  go_enter Try.func76, Try.ntmps76
  go_wp2_with fail
  refine (codeForB_any A B (some na) n c k d q e0 P D xs _ h0.out x0.out hn hk hq).mono ?_
  rw [HZ.out]
  rintro e w1 ⟨rfl, b1⟩
  have C1 := Lib.hid (C0.out.trans (b1.mono C0.out.size))
  have K1 := Lib.hid (K0.out.on b1)
  have hc0 := ((HX.out.on C1.out).2 hq0)
  obtain ⟨_, e, _, hc0⟩ := hc0
  injection e with e
  subst e
  have hc1 := hc0 0 _ HV.out
  rw [add_zero'] at hc1
  clear b1 p0 p1 hc0
  go_wp2_with (go_at_call 96; (with_reducible refine (isWithin_any _ _ _ _).mono ?_); rintro e w' ⟨rfl, rfl⟩)
  clear hc1
  go_loopw [7] (fun v wr => ∃ g : Nat, g < n ∧ v = .int .i64 g ∧ Hid (∀ i, allU P xs i = true → i ∈ ancN P g) ∧ Hid (Cell2 wr w.heap.size 27 (.slice A n c) (.slice B k d)) ∧ Hid (Below w.heap.size w wr)) (fun v _ => (intOf v).toNat)
  case atStart => exact ⟨x, hxn, rfl, hstart, K1, C1⟩
  case round =>
    obtain ⟨g, hg, rfl, hall, HC, HB⟩ := hrel
    clear K1 C1 hstart
    obtain ⟨p0, p1⟩ := HC.out.cells
    go_wp2_with fail
    refine (nodesUnder_any A B n c k d g P D _ (H.out.on HB.out) HT.out HL.out n24 hg).mono ?_
    rintro e w2 ⟨rfl, b2⟩
    have B2 := Lib.hid (below_trans' HB.out b2)
    have C2 := Lib.hid (HC.out.on b2)
    clear b2 p0 p1
    go_wp2_with fail
    refine (hasAll_any (inN n (und P g)) (some na) q e0 xs _ (HX.out.on B2.out) hq (fun y hy => by have := nodesB_at HN.out hy; rw [HL.out] at this; omega)).mono ?_
    rw [allU_in HL.out HN.out]
    rcases hu : allU P xs g with _ | _
    · rintro e w3 ⟨rfl, b3⟩
      have B3 := Lib.hid (below_trans' B2.out b3)
      have C3 := Lib.hid (C2.out.on b3)
      obtain ⟨g1, g2, g3, g4⟩ := com_next HT.out (fun y hy => by have := nodesB_at HN.out hy; omega) (by rw [HL.out]; exact hg) hu hall.out
      obtain ⟨pa, rfl, hpa⟩ := (H.out.on B3.out).par_at hg
      obtain ⟨y, hy⟩ : ∃ y : Nat, par P g = (y : Int) := ⟨(par P g).toNat, by omega⟩
      have HY : Hid (y < g) := Lib.hid (by omega)
      have hall2 : Hid (∀ i, allU P xs i = true → i ∈ ancN P y) := Lib.hid (fun i hi => by have := g4 i hi; rw [hy] at this; simpa using this)
      rw [hy] at hpa
      have i0 : (0 : Int) ≤ (g : Int) := by omega
      have i1 : (g : Int) < (n : Int) := by omega
      obtain ⟨p0, p1⟩ := C3.out.cells
      clear hy g1 g2 g3 g4 hall hu b3 B2 C2
      go_wp2
      go_roundw
      case rel => exact ⟨y, by have := HY.out; omega, rfl, hall2, C3, B3⟩
      case measure => have := HY.out; simp [intOf]; omega
    · rintro e w3 ⟨rfl, b3⟩
      have B3 := Lib.hid (below_trans' B2.out b3)
      have HG : Hid (comN P xs = g) := Lib.hid (com_here HT.out (by rw [HL.out]; exact hg) hu hall.out)
      clear b3 hall hu
      go_wp2
      go_ret2
      exact ⟨by rw [HG.out]; rfl, B3.out⟩

end Go.Proofs.Ytnadcjclihflcaa
