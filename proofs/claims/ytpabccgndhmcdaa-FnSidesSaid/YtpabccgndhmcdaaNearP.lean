/- The contract of the function that adds the codes near a family to a set. -/
import Derived.Test.YtpabccgndhmcdaaKeyS
import Derived.Deep.Cut
namespace Go.Proofs.Ytpabccgndhmcdaa
open Go.RowKit Go.Maps

/-- block b of w is a set of side codes: those of which P says so -/
def NearOf (w : World) (b n s : Nat) (P : List Int → Bool) : Prop := ∃ D : DataW Unit, w.ownsMap Try.prog 83 (plainElem Try.prog 4) b n D ∧ NearIs s D P
theorem NearOf.lt {w : World} {b n s : Nat} {P : List Int → Bool} (h : NearOf w b n s P) : b < w.heap.size := by obtain ⟨D, h, _⟩ := h; exact h.lt
theorem NearOf.kept {w w' : World} {b n s : Nat} {P : List Int → Bool} {row : Option Nat} (h : NearOf w b n s P) (hg : w.grownBy w' row) (hr : some b ≠ row) : NearOf w' b n s P := by
  obtain ⟨D, h, k⟩ := h
  exact ⟨D, h.kept hg hr, k⟩
theorem NearOf.alloc {w : World} {b n s : Nat} {P : List Int → Bool} (h : NearOf w b n s P) (o : Obj) : NearOf (w.alloc o) b n s P := h.kept (World.grownBy_alloc w o none) (by simp)
theorem NearOf.mono {w : World} {b n n' s : Nat} {P : List Int → Bool} (h : NearOf w b n s P) (hn : n ≤ n') : NearOf w b n' s P := by
  obtain ⟨D, h, k⟩ := h
  exact ⟨D, h.mono hn, k⟩
theorem NearOf.same {w : World} {b n s : Nat} {P P' : List Int → Bool} (h : NearOf w b n s P) (hp : ∀ xs, Sc s xs → P xs = P' xs) : NearOf w b n s P' := by
  obtain ⟨D, h, k⟩ := h
  exact ⟨D, h, k.same hp⟩
theorem NearOf.aside {w : World} {b n s : Nat} {P : List Int → Bool} (h : NearOf w b n s P) {a : Addr} (ha : b ≠ a.block) (u : Value) : NearOf (w.setCell a u) b n s P := by
  obtain ⟨D, h, k⟩ := h
  exact ⟨D, h.setCell ha u, k⟩
theorem small_of {v : Int} {xs : List Int} (h : allIn 0 (v - 1) xs = true) (hv : v ≤ 5) : ∀ u ∈ xs, 0 ≤ u ∧ u ≤ 4 := by
  intro u hu
  obtain ⟨j, hj⟩ := List.getElem?_of_mem hu
  have := allIn_at h hj
  omega
theorem allIn_set {lo hi a : Int} {xs : List Int} {p : Nat} (h : allIn lo hi xs = true) (h0 : lo ≤ a) (h1 : a ≤ hi) : allIn lo hi (xs.set p a) = true := by
  unfold allIn at *
  rw [List.all_eq_true] at *
  intro u hu
  rcases List.mem_or_eq_of_mem_set hu with hu | rfl
  · exact h u hu
  · exact inB_true.2 ⟨h0, h1⟩
theorem set_same (xs : List Int) (p : Nat) (a b : Int) : (xs.set p a).set p b = xs.set p b := List.set_set ..
theorem six_pow (k : Nat) : 6 ^ (k + 1) = 6 * 6 ^ k := by rw [Nat.pow_succ, Nat.mul_comm]

set_option maxHeartbeats 2000000 in
theorem addNear_any (s : Nat) (v : Int) (hs : sysB (s : Int) v = true) : ∀ (k : Nat) (xs : List Int) (p : Nat) (pi m : Int) (b n : Nat) (P : List Int → Bool) (w : World), pi = (p : Int) → p + k = s → xs.length = s → allIn 0 (v - 1) xs = true → 0 ≤ m → m ≤ 5 →
    NearOf w b n s P → n + 6 ^ k ≤ 4000000000 →
    Calls Try.prog 74 #[.agg #[.int .i64 (s : Int), .int .i64 v], .map (some b), .agg #[.int .i64 (nth xs 0), .int .i64 (nth xs 1), .int .i64 (nth xs 2), .int .i64 (nth xs 3), .int .i64 (nth xs 4)], .int .i64 pi, .int .i64 m] w
      fun e w' => e = .returned (.tuple #[]) ∧ NearOf w' b (n + 6 ^ k) s (fun ys => P ys || reachB v s xs p m ys) ∧ w.grownBy w' (some b) := by
  intro k
  obtain ⟨s0, s1, v0, v1⟩ := sys_true hs
  induction k with
  | zero =>
    rintro xs p _ m b n P w rfl hp hx hall hm0 hm1 hN hroom
    obtain rfl : p = s := by omega
    have hsm := small_of hall v1
    have hend := fun ys (hy : Sc p ys) => reach_end v p xs m ys hm0 hx hy.1 hall
    obtain ⟨D, hown, hD⟩ := (hN.alloc (.cells #[.int .i64 (p : Int), .int .i64 v] 66)).alloc (.cells #[.int .i64 (nth xs 0), .int .i64 (nth xs 1), .int .i64 (nth xs 2), .int .i64 (nth xs 3), .int .i64 (nth xs 4)] 83)
    have HG := Lib.hid ((World.grownBy_alloc w (.cells #[.int .i64 (p : Int), .int .i64 v] 66) (some b)).trans (World.grownBy_alloc _ (.cells #[.int .i64 (nth xs 0), .int .i64 (nth xs 1), .int .i64 (nth xs 2), .int .i64 (nth xs 3), .int .i64 (nth xs 4)] 83) (some b)))
    have HD := Lib.hid hD
    have HX := Lib.hid hx
    have HE := Lib.hid hend
    clear hN hD hend hx hp hall
    go_enter Try.func74, Try.ntmps74
    go_wp2_with (at_mapUpdate; refine wpList_mapUpdate_own _ rfl _ _ _ 84 rfl 83 4 sk_law Try.underlying84 _ b n D rfl hown (by unfold maxLen; omega) _ _ _ rfl rfl (keyL_is hsm) _ [] (plainElem_bool Try.underlying4 true) ?_; intro w1 hown1 hgrow1)
    simp only [Act.put]
    refine bodyPost_ret (results_none rfl _ _ _) rfl ?_
    refine ⟨rfl, ⟨_, hown1, ?_⟩, HG.out.trans hgrow1⟩
    refine (HD.out.put (by omega) hown.isMap ⟨HX.out, hsm⟩).same fun ys hy => ?_
    rw [HE.out ys hy]
  | succ k ih =>
    rintro xs p _ m b n P w rfl hp hx hall hm0 hm1 hN hroom
    have hsm := small_of hall v1
    have IH := Lib.hid ih
    have H6 := Lib.hid (six_pow k)
    have h61 := six_pow k
    have HX := Lib.hid hx
    have HA := Lib.hid hall
    have HP := Lib.hid hp
    have hps : ((p : Int) == (s : Int)) = false := by simp; omega
    have hlb := hN.lt
    have hp5 : p < s := by omega
    have hs5 : s ≤ 5 := by omega
    have HN0 := Lib.hid ((hN.alloc (.cells #[.int .i64 (s : Int), .int .i64 v] 66)).alloc (.cells #[.int .i64 (nth xs 0), .int .i64 (nth xs 1), .int .i64 (nth xs 2), .int .i64 (nth xs 3), .int .i64 (nth xs 4)] 83))
    have HG0 := Lib.hid ((World.grownBy_alloc w (.cells #[.int .i64 (s : Int), .int .i64 v] 66) (some b)).trans (World.grownBy_alloc _ (.cells #[.int .i64 (nth xs 0), .int .i64 (nth xs 1), .int .i64 (nth xs 2), .int .i64 (nth xs 3), .int .i64 (nth xs 4)] 83) (some b)))
    have HB0 := Lib.hid ((Box2.new w (s : Int) v).alloc (.cells #[.int .i64 (nth xs 0), .int .i64 (nth xs 1), .int .i64 (nth xs 2), .int .i64 (nth xs 3), .int .i64 (nth xs 4)] 83))
    have HC0' := Box5.new (w.alloc (.cells #[.int .i64 (s : Int), .int .i64 v] 66)) xs
    rw [World.size_alloc] at HC0'
    have HC0 := Lib.hid HC0'
    clear hN ih HC0' hx hall hp
    go_enter Try.func74, Try.ntmps74
    go_wp2_with fail
    refine (IH.out xs (p + 1) _ m b n P _ (by omega) (by have := HP.out; omega) HX.out HA.out hm0 hm1 HN0.out (by omega)).mono ?_
    rintro e w1 ⟨rfl, N1, G1⟩
    have HN1 := Lib.hid N1
    have hlb1 := N1.lt
    have hsz : w.heap.size + 1 + 1 ≤ w1.heap.size := by have := G1.size; simpa using this
    have HB1 := Lib.hid (HB0.out.grown G1 (by simp; omega))
    have HC1 := Lib.hid (HC0.out.grown G1 (by simp; omega))
    have HG1 := Lib.hid (HG0.out.trans G1)
    clear N1 G1 HN0 HG0 HB0 HC0
    by_cases hm : m = 0
    · subst hm
      go_wp2
      (try simp only [Exit.inBlock, Exit.then])
      refine bodyPost_ret (results_none rfl _ _ _) rfl ?_
      refine ⟨rfl, (HN1.out.mono (by omega)).same fun ys hy => ?_, HG1.out⟩
      rw [reach_none v s xs p ys (by have := HP.out; omega)]
    have hmz : (m == 0) = false := by simpa using hm
    obtain ⟨c0, c1, c2, c3, c4⟩ := HC1.out.cells
    have HN2 := Lib.hid (HN1.out.alloc (.cells #[.int .i64 (nth xs 0), .int .i64 (nth xs 1), .int .i64 (nth xs 2), .int .i64 (nth xs 3), .int .i64 (nth xs 4)] 83))
    have HB2 := Lib.hid (HB1.out.alloc (.cells #[.int .i64 (nth xs 0), .int .i64 (nth xs 1), .int .i64 (nth xs 2), .int .i64 (nth xs 3), .int .i64 (nth xs 4)] 83))
    have HC2 := Lib.hid (HC1.out.alloc (.cells #[.int .i64 (nth xs 0), .int .i64 (nth xs 1), .int .i64 (nth xs 2), .int .i64 (nth xs 3), .int .i64 (nth xs 4)] 83))
    have HO2 := Lib.hid (Box5.new w1 xs)
    have HG2 := Lib.hid (HG1.out.trans (World.grownBy_alloc w1 (.cells #[.int .i64 (nth xs 0), .int .i64 (nth xs 1), .int .i64 (nth xs 2), .int .i64 (nth xs 3), .int .i64 (nth xs 4)] 83) (some b)))
    have b1 := HB2.out.cells.2
    clear HN1 HB1 HC1 HG1
    go_wp2
    go_loopw [30] (fun i wr => ∃ (j : Nat) (zs : List Int), (j : Int) ≤ v ∧ i = .int .i64 j ∧ Hid (Box5 wr w1.heap.size zs ∧ zs.length = s ∧ ∀ a, zs.set p a = xs.set p a) ∧ Hid (NearOf wr b (n + 6 ^ k + j * 6 ^ k) s (fun ys => (P ys || reachB v s xs (p + 1) m ys) || someB v s xs p m j ys)) ∧ Hid (Box2 wr w.heap.size (s : Int) v ∧ Box5 wr (w.heap.size + 1) xs) ∧ Hid (w.grownBy wr (some b)) ∧ w1.heap.size < wr.heap.size) (fun i _ => (v - intOf i).toNat)
    case atStart => exact ⟨0, xs, by omega, rfl, Lib.hid ⟨HO2.out, HX.out, fun _ => rfl⟩, Lib.hid ((HN2.out.mono (by omega)).same fun ys _ => by simp [someB]), Lib.hid ⟨HB2.out, HC2.out⟩, HG2, by simp⟩
    case round =>
      obtain ⟨j, zs, hj, rfl, HO, HN, HBC, HG, hsz3⟩ := hrel
      clear c0 c1 c2 c3 c4 b1 HN2 HB2 HC2 HO2 HG2
      have cp := HBC.out.2.cell (p := p) (by omega)
      by_cases hlt : (j : Int) < v
      · by_cases he : (j : Int) = nth xs p
        · have hne : ((j : Int) != nth xs p) = false := by simpa using he
          have HS : Hid (∀ ys, someB v s xs p m (j + 1) ys = someB v s xs p m j ys) := Lib.hid (by
            intro ys
            rw [some_step, decide_eq_false (show ¬ ((j : Int) ≠ xs.getD p 0) from fun h => h he)]
            simp)
          clear he
          go_wp2
          go_roundw
          case rel => exact ⟨j + 1, zs, by omega, by go_num, HO, Lib.hid ((HN.out.mono (by rw [Nat.add_mul]; omega)).same fun ys _ => by rw [HS.out]), HBC, HG, hsz3⟩
          case measure => simp [intOf]; omega
        · have hne : ((j : Int) != nth xs p) = true := by simpa using he
          have HS : Hid (∀ ys, someB v s xs p m (j + 1) ys = (someB v s xs p m j ys || reachB v s (xs.set p (j : Int)) (p + 1) (m - 1) ys)) := Lib.hid (by
            intro ys
            rw [some_step, decide_eq_true (show (j : Int) ≠ xs.getD p 0 from he)]
            simp)
          clear he
          have hfz := HO.out.1.thawed p
          have hcl := HO.out.1.cell (p := p) (by omega)
          have j0 : (0 : Int) ≤ (j : Int) := by omega
          go_upto_region 11 with (fail)
          have HO3 : Hid (Box5 (wr.setCell ⟨w1.heap.size, p, none⟩ (.int .i64 (j : Int))) w1.heap.size (xs.set p (j : Int))) := Lib.hid (by
            have h := HO.out.1.set (p := p) (by have := HO.out.2.1; omega) (by have := HO.out.2.1; omega) (j : Int)
            rw [HO.out.2.2] at h; exact h)
          have HN3 := Lib.hid (HN.out.aside (a := ⟨w1.heap.size, p, none⟩) (by simp; omega) (.int .i64 (j : Int)))
          have HB3 := Lib.hid (HBC.out.1.aside (a := ⟨w1.heap.size, p, none⟩) (by simp; omega) (.int .i64 (j : Int)))
          have HC3 := Lib.hid (HBC.out.2.aside (a := ⟨w1.heap.size, p, none⟩) (by simp; omega) (.int .i64 (j : Int)))
          have HG3 := Lib.hid (grown_new HG.out (p := ⟨w1.heap.size, p, none⟩) (by simp; omega) (.int .i64 (j : Int)))
          have hjk : j * 6 ^ k ≤ 4 * 6 ^ k := Nat.mul_le_mul_right _ (by omega)
          have hsz4 : w1.heap.size < (wr.setCell ⟨w1.heap.size, p, none⟩ (.int .i64 (j : Int))).heap.size := by simpa [World.setCell] using hsz3
          clear HO HN HBC HG hfz hcl cp hsz3
          generalize wr.setCell ⟨w1.heap.size, p, none⟩ (.int .i64 (j : Int)) = w3 at HO3 HN3 HB3 HC3 HG3 hsz4 ⊢
          obtain ⟨d0, d1, d2, d3, d4⟩ := HO3.out.cells
          obtain ⟨e0, e1⟩ := HB3.out.cells
          go_wp2_with fail
          refine (IH.out (xs.set p (j : Int)) (p + 1) _ (m - 1) b _ _ _ (by omega) (by have := HP.out; omega) (by rw [List.length_set]; exact HX.out) (allIn_set HA.out j0 (by omega)) (by omega) (by omega) HN3.out (by omega)).mono ?_
          rintro e w4 ⟨rfl, N4, G4⟩
          have HN4 := Lib.hid N4
          have HO4 := Lib.hid (HO3.out.grown G4 (by simp; omega))
          have HB4 := Lib.hid (HB3.out.grown G4 (by simp; omega))
          have HC4 := Lib.hid (HC3.out.grown G4 (by simp; omega))
          have HG4 := Lib.hid (HG3.out.trans G4)
          have hsz5 : w1.heap.size < w4.heap.size := by have := G4.size; omega
          clear N4 G4 HO3 HN3 HB3 HC3 HG3 hsz4 d0 d1 d2 d3 d4 e0 e1 hjk
          go_wp2
          go_roundw
          case rel => exact ⟨j + 1, xs.set p (j : Int), by omega, by go_num, Lib.hid ⟨HO4.out, by rw [List.length_set]; exact HX.out, fun a => set_same xs p _ a⟩, Lib.hid ((HN4.out.mono (by rw [Nat.add_mul]; omega)).same fun ys _ => by simp only [HS.out, Bool.or_assoc]), Lib.hid ⟨HB4.out, HC4.out⟩, HG4, hsz5⟩
          case measure => simp [intOf]; omega
      · have hjv : j = v.toNat := by omega
        have hjk : j * 6 ^ k ≤ 5 * 6 ^ k := Nat.mul_le_mul_right _ (by omega)
        have HE : Hid (NearOf wr b (n + 6 ^ (k + 1)) s (fun ys => P ys || reachB v s xs p m ys)) := Lib.hid ((HN.out.mono (by omega)).same fun ys hy => by
          rw [reach_split v s xs p m ys (by omega) HX.out hy.1 (by omega), hjv, Bool.or_assoc])
        clear HN hjk
        go_wp2
        go_end0
        exact ⟨rfl, H6.out ▸ HE.out, HG.out⟩

end Go.Proofs.Ytpabccgndhmcdaa
