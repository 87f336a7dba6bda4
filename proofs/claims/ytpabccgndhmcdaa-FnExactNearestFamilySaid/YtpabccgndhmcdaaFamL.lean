/- CountFamilies and FamiliesOf of the program: contracts. -/
import Derived.Test.YtpabccgndhmcdaaInOrd
import Derived.Deep.RegionHeld3
import Derived.Deep.RegionWith
namespace Go.Proofs.Ytpabccgndhmcdaa
open Go.RowKit Go.Maps

/-- all families -/
def famAll (s v d : Int) : List (List Int) := famTo s.toNat v d (powC v s.toNat).toNat
def cfV (s v d : Int) : Int := if sdB s v d then ((famAll s v d).length : Int) else 0
def cfE (s v d : Int) : Int := if sdB s v d then 0 else 2
theorem cf_no {s v d : Int} (h : sdB s v d = false) : cfV s v d = 0 ∧ cfE s v d = 2 := by simp [cfV, cfE, h]
theorem cf_yes {s v d : Int} (h : sdB s v d = true) : cfV s v d = ((famAll s v d).length : Int) ∧ cfE s v d = 0 := by simp [cfV, cfE, h]
theorem FamOf.len {w : World} {b n s : Nat} {F : List (List Int)} (h : FamOf w b n s F) (ty : TypeId) : (Builtin.len_ #[70] ty #[.map (some b)]).run Try.prog w = .ok (.int .i64 (F.length : Int)) w := by
  obtain ⟨D, hown, hD⟩ := h
  have := hown.len Try.underlying70 ty
  rwa [hD.size] at this
theorem all_take (s : Nat) (v d : Int) (n : Nat) : (famTo s v d n).take n = famTo s v d n := List.take_of_length_le (fam_count s v d n)
theorem families_at (s : Nat) (si v d mi : Int) (most : Nat) (W : World) (hsi : si = (s : Int)) (hmi : mi = (most : Int)) (hs : sdB (s : Int) v d = true) (hm : most ≤ 100000) :
    Calls Try.prog 54 #[.agg #[.int .i64 si, .int .i64 v], .int .i64 d, .int .i64 mi] W
      fun e w' => e = .returned (.map (some (W.heap.size + 1))) ∧ FamOf w' (W.heap.size + 1) 100000 s ((famTo s v d (powC v s).toNat).take most) ∧ Below W.heap.size W w' := by
  subst hsi; subst hmi; exact families_any s v d most W hs hm
theorem inOrder_at (s : Nat) (si v : Int) (b n : Nat) (F : List (List Int)) (W : World) (hsi : si = (s : Int)) (h1 : 1 ≤ s) (h5 : s ≤ 5) (h : FamOf W b n s F) (hF : F.length ≤ 100000) :
    Calls Try.prog 53 #[.agg #[.int .i64 si, .int .i64 v], .map (some b)] W (GivesRag W F) := by
  subst hsi; exact inOrder_any s v b n F W h1 h5 h hF
theorem Box2.drewN {w : World} {g : Nat} {s v : Int} (h : Box2 w g s v) (k : Nat) : Box2 (w.drewN k) g s v := h

set_option maxRecDepth 100000 in
set_option maxHeartbeats 4000000 in
theorem countFamilies_any (s v d : Int) (w : World) :
    Calls Try.prog 20 #[.int .i64 s, .int .i64 v, .int .i64 d] w fun e w' => e = .returned (.tuple #[.int .i64 (cfV s v d), .int .i64 (cfE s v d)]) ∧ Below w.heap.size w w' := by
  have b := below_box w (.cells #[.int .i64 s, .int .i64 v] 66)
  have x0 := Box2.new w s v
  rcases hs : sdB s v d with _ | _
  · rw [(cf_no hs).1, (cf_no hs).2]
    go_enter Try.func20, Try.ntmps20
    go_wp2_with fail
    refine (hasDistance_any s v d _).mono ?_
    rw [hs]
    rintro e w1 ⟨rfl, b1⟩
    have b2 := below_trans' b b1
    clear b b1 x0
    go_wp2
    go_ret2
    exact ⟨rfl, b2⟩
  · rw [(cf_yes hs).1, (cf_yes hs).2]
    obtain ⟨hy, d0, d1⟩ := sd_true hs
    obtain ⟨s0, s1, v0, v1⟩ := sys_true hy
    have HS := Lib.hid hs
    have HY := Lib.hid hy
    have HP := Lib.hid (pow_small (k := s.toNat) v0 v1 (by omega))
    have HSI : Hid (s = ((s.toNat : Nat) : Int)) := Lib.hid (by omega)
    have HSS : Hid (sdB ((s.toNat : Nat) : Int) v d = true) := Lib.hid (by rw [← HSI.out]; exact hs)
    clear hs hy
    go_enter Try.func20, Try.ntmps20
    go_wp2_with fail
    refine (hasDistance_any s v d _).mono ?_
    rw [HS.out]
    rintro e w1 ⟨rfl, b1⟩
    have K1 := Lib.hid (x0.on b1)
    have C1 := Lib.hid (below_trans' b b1)
    clear b b1 x0
    obtain ⟨q0, q1⟩ := K1.out.cells
    go_wp2
    go_region_with (first
      | (go_at_call 55; refine (count_any s v _ HY.out).mono ?_; rintro e w2 ⟨rfl, b2⟩; have K2 := Lib.hid ((K1.out.drewN 1).on b2); have C2 := Lib.hid (below_trans' (below_drewN C1.out 1) b2); obtain ⟨p0, p1⟩ := K2.out.cells)
      | (go_at_call 54; refine (families_at s.toNat _ v d _ (powC v s.toNat).toNat _ HSI.out (by have := HP.out; omega) HSS.out (by have := HP.out; omega)).mono ?_; rintro e w3 ⟨rfl, F3, b3⟩; have C3 := Lib.hid (below_trans' C2.out b3); have hl3 := F3.len 3))
    all_goals
      clear q0 q1 p0 p1 K1 K2 hl3 F3 b2 b3 C2
      have HE : Hid (((min (powC v s.toNat).toNat (famTo s.toNat v d (powC v s.toNat).toNat).length : Nat) : Int) = ((famAll s v d).length : Int)) := Lib.hid (by
        rw [Nat.min_eq_right (fam_count _ _ _ _)]; rfl)
      go_wp2
      go_ret2
      exact ⟨ret_int2 HE.out rfl, C3.out⟩

def foOk (s v d m : Int) : Bool := sdB s v d && inB m 0 60
def foL (s v d m : Int) : List (List Int) := if foOk s v d m then (famAll s v d).take m.toNat else []
def foE (s v d m : Int) : Int := if foOk s v d m then 0 else 2
theorem fo_no {s v d m : Int} (h : foOk s v d m = false) : foL s v d m = [] ∧ foE s v d m = 2 := by simp [foL, foE, h]
theorem fo_yes {s v d m : Int} (h : foOk s v d m = true) : foL s v d m = (famAll s v d).take m.toNat ∧ foE s v d m = 0 := by simp [foL, foE, h]

set_option maxRecDepth 100000 in
set_option maxHeartbeats 4000000 in
theorem familiesOf_any (s v d m : Int) (w : World) :
    Calls Try.prog 18 #[.int .i64 s, .int .i64 v, .int .i64 d, .int .i64 m] w (GivesRagE w (foE s v d m) (foL s v d m)) := by
  have b := below_box w (.cells #[.int .i64 s, .int .i64 v] 66)
  have x0 := Box2.new w s v
  rcases hs : sdB s v d with _ | _
  · rw [(fo_no (m := m) (by simp [foOk, hs])).1, (fo_no (m := m) (by simp [foOk, hs])).2]
    go_enter Try.func18, Try.ntmps18
    go_wp2_with fail
    refine (hasDistance_any s v d _).mono ?_
    rw [hs]
    rintro e w1 ⟨rfl, b1⟩
    have b2 := below_trans' b b1
    clear b b1 x0
    go_wp2
    go_ret2
    exact ⟨none, 0, 0, [], rfl, Rag.nil _ b2.size, Nat.le_refl _, by omega, b2⟩
  have HS := Lib.hid hs
  rcases hm : inB m 0 60 with _ | _
  · rw [(fo_no (m := m) (by simp [foOk, hm])).1, (fo_no (m := m) (by simp [foOk, hm])).2]
    clear hs
    go_enter Try.func18, Try.ntmps18
    go_wp2_with fail
    refine (hasDistance_any s v d _).mono ?_
    rw [HS.out]
    rintro e w1 ⟨rfl, b1⟩
    have b2 := below_trans' b b1
    clear b b1 x0
    go_wp2_with (go_at_call 62; refine (isWithin_at _ _ _ _ _ hm).mono ?_; rintro e w' ⟨rfl, rfl⟩)
    go_ret2
    exact ⟨none, 0, 0, [], rfl, Rag.nil _ b2.size, Nat.le_refl _, by omega, b2⟩
  · rw [(fo_yes (m := m) (by simp [foOk, hm, hs])).1, (fo_yes (m := m) (by simp [foOk, hm, hs])).2]
    obtain ⟨hy, d0, d1⟩ := sd_true hs
    obtain ⟨s0, s1, v0, v1⟩ := sys_true hy
    have hm0 := (inB_true.1 hm).1
    have hm1 := (inB_true.1 hm).2
    have HSI : Hid (s = ((s.toNat : Nat) : Int)) := Lib.hid (by omega)
    have HMI : Hid (m = ((m.toNat : Nat) : Int)) := Lib.hid (by omega)
    have HSS : Hid (sdB ((s.toNat : Nat) : Int) v d = true) := Lib.hid (by rw [← HSI.out]; exact hs)
    clear hs hy
    go_enter Try.func18, Try.ntmps18
    go_wp2_with fail
    refine (hasDistance_any s v d _).mono ?_
    rw [HS.out]
    rintro e w1 ⟨rfl, b1⟩
    have K1 := Lib.hid (x0.on b1)
    have C1 := Lib.hid (below_trans' b b1)
    clear b b1 x0
    obtain ⟨q0, q1⟩ := K1.out.cells
    go_wp2_with (go_at_call 62; refine (isWithin_at _ _ _ _ _ hm).mono ?_; rintro e w' ⟨rfl, rfl⟩)
    go_region_held3 (fun w' => w'.cell? ⟨w.heap.size, 0, none⟩ = some (.int .i64 s) ∧ w'.cell? ⟨w.heap.size, 1, none⟩ = some (.int .i64 v))
      (first
        | go_keep
        | with_reducible exact K2.out.cells
        | with_reducible exact K3.out.cells)
      (first
        | (go_at_call 54; refine (families_at s.toNat _ v d _ m.toNat _ HSI.out HMI.out HSS.out (by omega)).mono ?_; rintro e w2 ⟨rfl, F2, b2⟩; have K2 := Lib.hid ((K1.out.drewN 1).on b2); have C2 := Lib.hid (below_trans' (below_drewN C1.out 1) b2))
        | (go_at_call 53; refine (inOrder_at s.toNat _ v _ _ _ _ HSI.out (by omega) (by omega) F2 (by rw [List.length_take]; omega)).mono ?_; rintro e w3 ⟨V3, n3, c3, gs3, rfl, R3, z3, y3, b3⟩; have K3 := Lib.hid (K2.out.on b3); have C3 := Lib.hid (below_trans' C2.out b3)))
    all_goals
      have HR := Lib.hid (R3.more C2.out.size)
      clear q0 q1 K1 K2 K3 F2 b2 b3 R3
      go_wp2
      go_ret2
      exact ⟨_, _, _, _, rfl, HR.out, z3, y3, C3.out⟩

end Go.Proofs.Ytpabccgndhmcdaa
