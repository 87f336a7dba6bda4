/- The program's LeastKeysFor. -/
import Derived.Test.YtidjnnooeepklaaTabW
namespace Go.Proofs.Ytidjnnooeepklaa
open Go Go.RowKit

/-- a box of one number -/
def KBox (w : World) (g : Nat) (x : Int) : Prop := w.heap[g]? = some (.cells #[.int .i64 x] 100 (0, 0))
theorem KBox.on {w w' : World} {g : Nat} {x : Int} (h : KBox w g x) (hb : Below w.heap.size w w') (_ : g < w.heap.size) : KBox w' g x := (hb.block g (heapLt h)).trans h
theorem KBox.put {w : World} {g : Nat} {x y : Int} (h : KBox w g y) : (w.setCell ⟨g, 0, none⟩ (.int .i64 x)).cell? ⟨g, 0, none⟩ = some (.int .i64 x) := by
  unfold KBox at h
  simp [World.setCell, World.cell?, Array.getElem?_modify, h]
theorem frozenT (w : World) (cs : Array Value) (t : TypeId) (i : Nat) : (w.alloc (.cells cs t)).frozen? ⟨w.heap.size, i, none⟩ = false := by
  have h := heap_alloc_new w (.cells cs t)
  unfold World.frozen?
  rw [h]
  rfl
def GivesLeast (w : World) (n D : Nat) (F : Nat → Nat) (e : Ending) (w' : World) : Prop :=
  (∃ r : Nat, e = .returned (.tuple #[.int .i64 (r : Int), .bool (decide (D &&& opU n F (2 ^ n - 1) n = D))]) ∧ r < 1024 ∧ (decide (D &&& opU n F (2 ^ n - 1) n = D) = true → r = bestF n (fun u => decide (D &&& opU n F u n = D)) (2 ^ n) (2 ^ n - 1))) ∧ Below w.heap.size w w'
theorem leastKeys_lit (n m D : Nat) (F : Nat → Nat) (w : World) (hn : n ≤ 10) (hF : ∀ i, i < n → F i < 4096) (hD : D < 4096) :
    Calls Try.prog 102 #[.agg #[.int .i64 (n : Int), .int .i64 (m : Int), .int .u16 ((F 0 : Nat) : Int), .int .u16 ((F 1 : Nat) : Int), .int .u16 ((F 2 : Nat) : Int), .int .u16 ((F 3 : Nat) : Int), .int .u16 ((F 4 : Nat) : Int), .int .u16 ((F 5 : Nat) : Int), .int .u16 ((F 6 : Nat) : Int), .int .u16 ((F 7 : Nat) : Int), .int .u16 ((F 8 : Nat) : Int), .int .u16 ((F 9 : Nat) : Int)], .int .u16 (D : Int)] w (GivesLeast w n D F) := leastKeys_any n m D F w hn hF hD
theorem TBox.box1 {w : World} {g n m : Nat} {F : Nat → Nat} {x : Int} (h : TBox w g n m F) : TBox (w.alloc (.cells #[.int .i64 x] 100)) g n m F := h.on (below_boxT w _)
set_option maxRecDepth 100000 in
set_option maxHeartbeats 4000000 in
theorem leastKeysFor_any (V : Option Addr) (n c : Nat) (T : List (List Int)) (A : Option Addr) (q cc : Nat) (ds : List Int) (w : World) (h : Sets w w.heap.size V n T) (hn : n + sizeL T ≤ 1048576) (hx : Ints w w.heap.size A q ds) (hq : q ≤ 1048576) :
    Calls Try.prog 51 #[.slice V n c, .slice A q cc] w (GivesList w (lkE T ds) (lkL T ds)) := by
  have HL := Lib.hid h.len
  have HN := Lib.hid hn
  have H := Lib.hid h
  have X := Lib.hid hx
  clear h hn hx
  rcases hb : tabB T with _ | _
  · have HZ : Hid (tksE T [] = 1) := Lib.hid (by unfold tksE; rw [hb]; rfl)
    have HV : Hid (lkL T ds = [] ∧ lkE T ds = 1) := Lib.hid (by
      have e : lkE T ds = 1 := by unfold lkE; rw [hb]; rfl
      exact ⟨by unfold lkL; rw [e]; rfl, e⟩)
    rw [HV.out.1, HV.out.2]
    clear hb
    go_enter Try.func51, Try.ntmps51
    go_wp2_with fail
    refine (tableOf_any V n c T none 0 0 [] _ H.out HN.out ⟨rfl, fun h => absurd h (by omega)⟩ (by omega)).mono ?_
    rw [HZ.out]
    rintro e w1 ⟨⟨a, b, F, rfl, _⟩, b1⟩
    have C1 := Lib.hid (b1.alloc b1.size (.cells (tabA a b F) 83))
    clear b1
    go_wp2
    go_ret2
    exact ⟨none, 0, 0, rfl, Own.nil _ (Nat.le_refl _), by omega, by omega, by omega, C1.out⟩
  have HZ : Hid (tksE T [] = 0) := Lib.hid (by rw [tks_none]; unfold tE; rw [hb]; rfl)
  have HB := Lib.hid hb
  have hn10 : n ≤ 10 := by have := (tabB_true hb).1; have := HL.out; omega
  have hm12 := (tabB_true hb).2.1
  have HLT := Lib.hid (fun i hi => bitsT_lt (i := i) hb rfl HL.out hi)
  obtain ⟨m, hm⟩ : ∃ m, colT T = m := ⟨_, rfl⟩
  have HM := Lib.hid hm
  rcases hrs : riseB (m : Int) ds with _ | _
  · have HV : Hid (lkL T ds = [] ∧ lkE T ds = 2) := Lib.hid (by
      have e : lkE T ds = 2 := by unfold lkE; rw [hb, hm, hrs]; rfl
      exact ⟨by unfold lkL; rw [e]; rfl, e⟩)
    have HRS := Lib.hid hrs
    rw [HV.out.1, HV.out.2]
    clear hb hrs hm hm12
    go_enter Try.func51, Try.ntmps51
    go_wp2_with fail
    refine (tableOf_any V n c T none 0 0 [] _ H.out HN.out ⟨rfl, fun h => absurd h (by omega)⟩ (by omega)).mono ?_
    rw [HZ.out]
    rintro e w1 ⟨⟨a, b, F, rfl, hF⟩, b1⟩
    obtain ⟨rfl, hm, rfl⟩ := hF rfl
    rw [HM.out] at hm
    subst hm
    have bA := below_boxT w1 (.cells (tabA a b (bitsT T)) 83)
    have C1 := Lib.hid (below_trans' b1 bA)
    have hc := (TBox.new w1 a b (bitsT T)).nm.2
    unfold tabA at hc bA
    have X1 := Lib.hid ((X.out.on b1).on bA)
    clear b1 bA hF
    go_wp2_with (go_at_call 101; refine (isRising_any _ _ _ ds _ _ X1.out hq).mono ?_; rw [HRS.out]; rintro e w' ⟨rfl, rfl⟩)
    go_ret2
    exact ⟨none, 0, 0, rfl, Own.nil _ (Nat.le_refl _), by omega, by omega, by omega, C1.out⟩
  have HRS := Lib.hid hrs
  have HDS : Hid (∀ d ∈ ds, 0 ≤ d ∧ d < 12) := Lib.hid (fun d hd => by
    have := riseB_in hrs d hd
    omega)
  have hD4 : dorM ds < 4096 := dorM_lt _ HDS.out
  have HCV : Hid (∀ u, decide (dorM ds &&& opU n (bitsT T) u n = dorM ds) = lkP T ds u) := Lib.hid (fun u => cover_is HL.out u)
  have HLE : Hid (lkE T ds = if lkP T ds (2 ^ n - 1) then 0 else 4) := Lib.hid (by unfold lkE; rw [hb, hm, hrs, HL.out]; rfl)
  clear hb hrs hm hm12
  go_enter Try.func51, Try.ntmps51
  go_wp2_with fail
  refine (tableOf_any V n c T none 0 0 [] _ H.out HN.out ⟨rfl, fun h => absurd h (by omega)⟩ (by omega)).mono ?_
  rw [HZ.out]
  rintro e w1 ⟨⟨a, b, F, rfl, hF⟩, b1⟩
  obtain ⟨rfl, hm, rfl⟩ := hF rfl
  rw [HM.out] at hm
  subst hm
  have bA := below_boxT w1 (.cells (tabA a b (bitsT T)) 83)
  have C1 := Lib.hid (below_trans' b1 bA)
  have X1 := Lib.hid ((X.out.on b1).on bA)
  have G1 := Lib.hid (TBox.new w1 a b (bitsT T))
  have hc := G1.out.nm.2
  unfold tabA at hc
  clear b1 bA hF
  obtain ⟨W, hW⟩ : ∃ W, W = w1.alloc (.cells (tabA a b (bitsT T)) 83) := ⟨_, rfl⟩
  have hW2 := hW
  unfold tabA at hW2
  rw [← hW] at C1 X1 G1
  rw [← hW2] at hc
  go_wp2_with fail
  rw [← hW2]
  clear hW hW2
  go_wp2_with (go_at_call 101; refine (isRising_any _ _ _ ds _ _ X1.out hq).mono ?_; rw [HRS.out]; rintro e w' ⟨rfl, rfl⟩)
  obtain ⟨c0, c1, c2, c3, c4, c5, c6, c7, c8, c9, ca, cb⟩ := G1.out.all
  clear hc
  have bD := (Below.refl W.heap.size W).drew
  have bE := (below_boxT W (.cells #[.int .i64 0] 100)).drew
  have XA := Lib.hid (X1.out.on bD)
  have XB := Lib.hid (X1.out.on bE)
  have GA := Lib.hid (G1.out.on bD)
  have GB := Lib.hid (G1.out.on bE)
  have CA := Lib.hid (below_trans' C1.out bD)
  have CB := Lib.hid (below_trans' C1.out bE)
  have KB := Lib.hid (show (W.alloc (.cells #[.int .i64 0] 100)).drew.cell? ⟨W.heap.size, 0, none⟩ = some (.int .i64 0) from cellT W #[.int .i64 0] 100 0)
  have FB := Lib.hid (show (W.alloc (.cells #[.int .i64 0] 100)).drew.frozen? ⟨W.heap.size, 0, none⟩ = false from frozenT W #[.int .i64 0] 100 0)
  have LB := Lib.hid (show W.heap.size < (W.alloc (.cells #[.int .i64 0] 100)).heap.size by simp)
  have KB0 : Hid (KBox (W.alloc (.cells #[.int .i64 0] 100)).drew W.heap.size 0) := Lib.hid (heap_alloc_new W _)
  clear bD bE
  have hw1 : w1.heap.size < W.heap.size := G1.out.lt
  go_region_with
    (first
      | (go_at_call 103; refine (doorsOf_any A q cc ds _ (by first | (with_reducible exact XA.out) | (with_reducible exact XB.out)) HDS.out hq).mono ?_; rintro e w' ⟨rfl, rfl⟩)
      | (go_at_call 102; (with_reducible refine (leastKeys_lit a b (dorM ds) (bitsT T) _ hn10 HLT.out hD4).mono ?_); rintro e w3 ⟨⟨r, rfl, hr, hbest⟩, b3⟩; have G3 : Hid (TBox w3 w1.heap.size a b (bitsT T)) := Lib.hid (by first | (with_reducible exact GA.out.on b3) | (with_reducible exact GB.out.on b3)); have C3 : Hid (Below w.heap.size w w3) := Lib.hid (by first | (with_reducible exact below_trans' CA.out b3) | (with_reducible exact below_trans' CB.out b3)); (try (have hst3 := (b3.cell (p := ⟨W.heap.size, 0, none⟩) LB.out).trans KB.out; have hfz3 := (b3.frozen (p := ⟨W.heap.size, 0, none⟩) LB.out).trans FB.out; have hkb3 : KBox w3 W.heap.size 0 := KB0.out.on b3 LB.out; have L3 := Lib.hid (Nat.lt_of_lt_of_le LB.out b3.size)))))
  all_goals first
    | (
      fail_if_success (have := hst3)
      have C4 := Lib.hid (below_trans' C3.out (below_boxT w3 (.cells #[.int .i64 (r : Int)] 100)))
      have K4 := Lib.hid (cellT w3 #[.int .i64 (r : Int)] 100 0)
      have G4 := Lib.hid (TBox.box1 (x := (r : Int)) G3.out)
      have LZ := Lib.hid (show w3.heap.size < (w3.alloc (.cells #[.int .i64 (r : Int)] 100)).heap.size by simp)
      have hzw : w.heap.size ≤ w3.heap.size := by have := C3.out.size; have := C1.out.size; omega
      clear b3 XA XB GA GB CA CB KB FB LB hw1
      generalize w3.alloc (.cells #[.int .i64 (r : Int)] 100) = Z at *
      rw [HCV.out (2 ^ a - 1)] at *
      rcases hok : lkP T ds (2 ^ a - 1) with _ | _
      · have HV : Hid (lkL T ds = [] ∧ lkE T ds = 4) := Lib.hid (by
          have e : lkE T ds = 4 := by rw [HLE.out, hok]; rfl
          exact ⟨by unfold lkL; rw [e]; rfl, e⟩)
        clear hok hbest
        go_wp2
        go_ret2
        exact ⟨none, 0, 0, by rw [HV.out.2]; rfl, by rw [HV.out.1]; exact Own.nil _ (Nat.le_refl _), by omega, by omega, by omega, C4.out⟩
      · have HV : Hid (lkE T ds = 0 ∧ lkL T ds = whereL (fun i => r.testBit (a - 1 - i)) a) := Lib.hid (by
          have e : lkE T ds = 0 := by rw [HLE.out, hok]; rfl
          refine ⟨e, ?_⟩
          unfold lkL
          rw [e, if_pos rfl]
          unfold lisU lkR
          rw [HL.out, hbest hok]
          congr 1
          funext i
          congr 2
          funext u
          exact (HCV.out u).symm)
        clear hok hbest
        obtain ⟨c0, c1, c2, c3, c4, c5, c6, c7, c8, c9, ca, cb⟩ := G4.out.all
        have HC := Lib.hid (keysWhere_any a b (bitsT T) 104 #[.pointer (some ⟨w1.heap.size, 0, none⟩), .pointer (some ⟨w3.heap.size, 0, none⟩)] (fun i => r.testBit (a - 1 - i)) Z hn10 (enters_of Try.func104 (by kernel_rfl) rfl) (fun wv i hi hb2 => leastKeysFor1_any a b r i w1.heap.size w3.heap.size (bitsT T) wv hn10 hi hr (G4.out.on hb2) ((hb2.cell (p := ⟨w3.heap.size, 0, none⟩) LZ.out).trans K4.out)))
        have hmf : ∀ (fn : Fn) (first cap : Array Value) (w : World), (Instr.makeFunc fn first cap).run Try.prog w = .ok (.func fn first cap) w := fun _ _ _ _ => rfl
        go_wp2_with fail
        refine HC.out.mono ?_
        rintro e w5 ⟨A2, n2, c2', rfl, ho, h1, h2, h3, b5⟩
        have C5 := Lib.hid (below_trans' C4.out b5)
        have HO := Lib.hid (ho.more C4.out.size (Nat.le_refl _) (Nat.le_refl _))
        clear b5 ho HC K4 G4 C4 c0 c1 c2 c3 c4 c5 c6 c7 c8 c9 ca cb
        go_wp2
        go_ret2
        exact ⟨_, n2, _, by rw [HV.out.1]; rfl, by rw [HV.out.2]; exact HO.out, h1, h2, h3, C5.out⟩)
    | (
      have C4 := Lib.hid (C3.out.setCell (p := ⟨W.heap.size, 0, none⟩) (show w.heap.size ≤ W.heap.size from C1.out.size) (.int .i64 (r : Int)))
      have K4 := Lib.hid (KBox.put (x := (r : Int)) hkb3)
      have G4 := Lib.hid (G3.out.aside (p := ⟨W.heap.size, 0, none⟩) (.int .i64 (r : Int)) (by show W.heap.size ≠ w1.heap.size; omega))
      have LZ := Lib.hid (show W.heap.size < (w3.setCell ⟨W.heap.size, 0, none⟩ (.int .i64 (r : Int))).heap.size by simp; exact L3.out)
      clear hst3 hfz3
      have hzw : w.heap.size ≤ W.heap.size := by have := C3.out.size; have := C1.out.size; omega
      clear b3 XA XB GA GB CA CB KB FB LB hw1
      generalize w3.setCell ⟨W.heap.size, 0, none⟩ (.int .i64 (r : Int)) = Z at *
      rw [HCV.out (2 ^ a - 1)] at *
      rcases hok : lkP T ds (2 ^ a - 1) with _ | _
      · have HV : Hid (lkL T ds = [] ∧ lkE T ds = 4) := Lib.hid (by
          have e : lkE T ds = 4 := by rw [HLE.out, hok]; rfl
          exact ⟨by unfold lkL; rw [e]; rfl, e⟩)
        clear hok hbest
        go_wp2
        go_ret2
        exact ⟨none, 0, 0, by rw [HV.out.2]; rfl, by rw [HV.out.1]; exact Own.nil _ (Nat.le_refl _), by omega, by omega, by omega, C4.out⟩
      · have HV : Hid (lkE T ds = 0 ∧ lkL T ds = whereL (fun i => r.testBit (a - 1 - i)) a) := Lib.hid (by
          have e : lkE T ds = 0 := by rw [HLE.out, hok]; rfl
          refine ⟨e, ?_⟩
          unfold lkL
          rw [e, if_pos rfl]
          unfold lisU lkR
          rw [HL.out, hbest hok]
          congr 1
          funext i
          congr 2
          funext u
          exact (HCV.out u).symm)
        clear hok hbest
        obtain ⟨c0, c1, c2, c3, c4, c5, c6, c7, c8, c9, ca, cb⟩ := G4.out.all
        have HC := Lib.hid (keysWhere_any a b (bitsT T) 104 #[.pointer (some ⟨w1.heap.size, 0, none⟩), .pointer (some ⟨W.heap.size, 0, none⟩)] (fun i => r.testBit (a - 1 - i)) Z hn10 (enters_of Try.func104 (by kernel_rfl) rfl) (fun wv i hi hb2 => leastKeysFor1_any a b r i w1.heap.size W.heap.size (bitsT T) wv hn10 hi hr (G4.out.on hb2) ((hb2.cell (p := ⟨W.heap.size, 0, none⟩) LZ.out).trans K4.out)))
        have hmf : ∀ (fn : Fn) (first cap : Array Value) (w : World), (Instr.makeFunc fn first cap).run Try.prog w = .ok (.func fn first cap) w := fun _ _ _ _ => rfl
        go_wp2_with fail
        refine HC.out.mono ?_
        rintro e w5 ⟨A2, n2, c2', rfl, ho, h1, h2, h3, b5⟩
        have C5 := Lib.hid (below_trans' C4.out b5)
        have HO := Lib.hid (ho.more C4.out.size (Nat.le_refl _) (Nat.le_refl _))
        clear b5 ho HC K4 G4 C4 c0 c1 c2 c3 c4 c5 c6 c7 c8 c9 ca cb
        go_wp2
        go_ret2
        exact ⟨_, n2, _, by rw [HV.out.1]; rfl, by rw [HV.out.2]; exact HO.out, h1, h2, h3, C5.out⟩)

end Go.Proofs.Ytidjnnooeepklaa
