/- NearestFamily of the program and of the model: contracts. The law of NearestFamily. -/
import Derived.Test.YtpabccgndhmcdaaFamS
namespace Go.Proofs.Ytpabccgndhmcdaa
open Go.RowKit

/-- the nearest one of the first k lists -/
def nfTo (F : List (List Int)) (xs : List Int) : Nat → List Int
  | 0 => []
  | k + 1 => if k = 0 then F.getD 0 [] else if diffI (F.getD k []) xs < diffI (nfTo F xs k) xs then F.getD k [] else nfTo F xs k
theorem nf_one (F : List (List Int)) (xs : List Int) : nfTo F xs 1 = F.getD 0 [] := rfl
theorem nf_take {F : List (List Int)} {xs f : List Int} {k : Nat} (hk : 1 ≤ k) (hf : F[k]? = some f) (h : diffI f xs < diffI (nfTo F xs k) xs) : nfTo F xs (k + 1) = f := by
  have e := getD_list hf
  show (if k = 0 then _ else if diffI (F.getD k []) xs < diffI (nfTo F xs k) xs then F.getD k [] else nfTo F xs k) = f
  rw [if_neg (by omega), e, if_pos h]
theorem nf_keep {F : List (List Int)} {xs f : List Int} {k : Nat} (hk : 1 ≤ k) (hf : F[k]? = some f) (h : ¬ diffI f xs < diffI (nfTo F xs k) xs) : nfTo F xs (k + 1) = nfTo F xs k := by
  have e := getD_list hf
  show (if k = 0 then _ else if diffI (F.getD k []) xs < diffI (nfTo F xs k) xs then F.getD k [] else nfTo F xs k) = _
  rw [if_neg (by omega), e, if_neg h]
def nfOk (s v d : Int) (xs : List Int) : Bool := sdB s v d && sideB s v xs
def nfL (s v d : Int) (xs : List Int) : List Int := if nfOk s v d xs then nfTo (famAll s v d) xs (famAll s v d).length else []
def nfE (s v d : Int) (xs : List Int) : Int := if sdB s v d then (if sideB s v xs then 0 else 1) else 2
theorem nf_no {s v d : Int} {xs : List Int} (h : sdB s v d = false) : nfL s v d xs = [] ∧ nfE s v d xs = 2 := by simp [nfL, nfOk, nfE, h]
theorem nf_bad {s v d : Int} {xs : List Int} (h : sdB s v d = true) (h2 : sideB s v xs = false) : nfL s v d xs = [] ∧ nfE s v d xs = 1 := by simp [nfL, nfOk, nfE, h, h2]
theorem nf_yes {s v d : Int} {xs : List Int} (h : sdB s v d = true) (h2 : sideB s v xs = true) : nfL s v d xs = nfTo (famAll s v d) xs (famAll s v d).length ∧ nfE s v d xs = 0 := by simp [nfL, nfOk, nfE, h, h2]

/-- the nearest list so far, as a value: none of the lists yet, or one of the row's -/
def NearV (S : Nat) (gs : List (Option Addr × Nat × Nat)) (F : List (List Int)) (xs : List Int) (k : Nat) (z l : Value) : Prop :=
  (k = 0 ∧ z = .slice none 0 0 ∧ l = .int .i64 ((S : Int) + 1)) ∨ (1 ≤ k ∧ ∃ (j : Nat) (a : Option Addr × Nat × Nat), gs[j]? = some a ∧ F[j]? = some (nfTo F xs k) ∧ z = .slice a.1 a.2.1 a.2.2 ∧ l = .int .i64 (diffI (nfTo F xs k) xs))
theorem NearV.least {S k : Nat} {gs : List (Option Addr × Nat × Nat)} {F : List (List Int)} {xs : List Int} {z l : Value} (h : NearV S gs F xs k z l) : ∃ y : Int, l = .int .i64 y ∧ (∀ f, F[k]? = some f → f.length = S → diffI f xs < y ∨ (¬ diffI f xs < y ∧ 1 ≤ k ∧ y = diffI (nfTo F xs k) xs)) := by
  rcases h with ⟨rfl, _, rfl⟩ | ⟨hk, j, a, _, _, _, rfl⟩
  · refine ⟨_, rfl, fun f _ hl => .inl ?_⟩
    have := (diffTo_in f xs f.length).2
    unfold diffI
    omega
  · refine ⟨_, rfl, fun f _ _ => ?_⟩
    by_cases h : diffI f xs < diffI (nfTo F xs k) xs
    · exact .inl h
    · exact .inr ⟨h, hk, rfl⟩
theorem NearV.take {S k : Nat} {gs : List (Option Addr × Nat × Nat)} {F : List (List Int)} {xs f : List Int} {z : Value} {y : Int} {a : Option Addr × Nat × Nat} (h : NearV S gs F xs k z (.int .i64 y)) (hf : F[k]? = some f) (ha : gs[k]? = some a) (hd : diffI f xs < y) :
    NearV S gs F xs (k + 1) (.slice a.1 a.2.1 a.2.2) (.int .i64 (diffI f xs)) := by
  have e : nfTo F xs (k + 1) = f := by
    rcases h with ⟨rfl, _, _⟩ | ⟨hk, j, b, _, _, _, hy⟩
    · rw [nf_one, getD_list hf]
    · have : y = diffI (nfTo F xs k) xs := by simpa using hy
      exact nf_take hk hf (by omega)
  exact .inr ⟨by omega, k, a, ha, by rw [e]; exact hf, rfl, by rw [e]⟩
theorem NearV.keep {S k : Nat} {gs : List (Option Addr × Nat × Nat)} {F : List (List Int)} {xs f : List Int} {z : Value} {y : Int} (h : NearV S gs F xs k z (.int .i64 y)) (hf : F[k]? = some f) (hk1 : 1 ≤ k) (hy' : y = diffI (nfTo F xs k) xs) (hd : ¬ diffI f xs < y) :
    NearV S gs F xs (k + 1) z (.int .i64 y) := by
  rcases h with ⟨h0, _, _⟩ | ⟨hk, j, b, hb, hj, hz, hy⟩
  · omega
  · have e : nfTo F xs (k + 1) = nfTo F xs k := nf_keep hk hf (by omega)
    exact .inr ⟨by omega, j, b, hb, by rw [e]; exact hj, hz, by rw [e]; exact hy⟩

set_option maxRecDepth 100000 in
set_option maxHeartbeats 4000000 in
theorem nearestFamily_any (s v d : Int) (A : Option Addr) (p c : Nat) (xs : List Int) (w : World) (h : Ints w w.heap.size A p xs) (hp : p ≤ 1048576) (hpc : p ≤ c) (hcm : c ≤ 9223372036854775807) :
    Calls Try.prog 15 #[.int .i64 s, .int .i64 v, .int .i64 d, .slice A p c] w (GivesList w (nfE s v d xs) (nfL s v d xs)) := by
  have b := below_box w (.cells #[.int .i64 s, .int .i64 v] 66)
  have x0 := Box2.new w s v
  have HL := Lib.hid h.len
  rcases hs : sdB s v d with _ | _
  · rw [(nf_no hs).1, (nf_no hs).2]
    go_enter Try.func15, Try.ntmps15
    go_wp2_with fail
    refine (hasDistance_any s v d _).mono ?_
    rw [hs]
    rintro e w1 ⟨rfl, b1⟩
    have b2 := below_trans' b b1
    clear b b1 x0
    go_wp2
    go_ret2
    exact ⟨none, 0, 0, rfl, Own.nil _ (Nat.le_refl _), by omega, by omega, by omega, b2⟩
  have HS := Lib.hid hs
  have HY := Lib.hid (sd_true hs).1
  obtain ⟨hy, d0, d1⟩ := sd_true hs
  obtain ⟨s0, s1, v0, v1⟩ := sys_true hy
  clear hs hy
  rcases hx : sideB s v xs with _ | _
  · rw [(nf_bad HS.out hx).1, (nf_bad HS.out hx).2]
    go_enter Try.func15, Try.ntmps15
    go_wp2_with fail
    refine (hasDistance_any s v d _).mono ?_
    rw [HS.out]
    rintro e w1 ⟨rfl, b1⟩
    obtain ⟨c0, c1⟩ := (x0.on b1).cells
    have b2 := below_trans' b b1
    have S2 := Lib.hid (Sets.one (c := c) 24 (h.on b2) hpc hcm)
    have B3 := Lib.hid (b2.alloc b2.size (.cells #[.slice A p c] 24))
    clear b b1 x0 b2 h
    go_wp2_with fail
    refine (hasCodes_any s v _ 1 _ [xs] _ S2.out (by omega) HY.out).mono ?_
    rw [show [xs].all (sideB s v) = false by simp [hx]]
    rintro e w2 ⟨rfl, b3⟩
    have b4 := below_trans' B3.out b3
    clear b3 S2 B3
    go_wp2
    go_ret2
    exact ⟨none, 0, 0, rfl, Own.nil _ (Nat.le_refl _), by omega, by omega, by omega, b4⟩
  · rw [(nf_yes HS.out hx).1, (nf_yes HS.out hx).2]
    obtain ⟨S, rfl⟩ : ∃ S : Nat, s = (S : Int) := ⟨s.toNat, by omega⟩
    have HXL : Hid (xs.length = S) := Lib.hid (by have := (side_true hx).1; omega)
    obtain rfl : p = S := by have := HL.out; have := HXL.out; omega
    have HP := Lib.hid (pow_small (k := p) v0 v1 (by omega))
    have HAX : Hid ([xs].all (sideB (p : Int) v) = true) := Lib.hid (by simp [hx])
    have HA : Hid (famAll (p : Int) v d = famTo p v d (powC v p).toNat) := Lib.hid (by unfold famAll; rw [Int.toNat_natCast])
    rw [HA.out]
    clear hx
    go_enter Try.func15, Try.ntmps15
    go_wp2_with fail
    refine (hasDistance_any (p : Int) v d _).mono ?_
    rw [HS.out]
    rintro e w1 ⟨rfl, b1⟩
    have X1 := x0.on b1
    obtain ⟨c0, c1⟩ := X1.cells
    have b2 := below_trans' b b1
    have S2 := Lib.hid (Sets.one (c := c) 24 (h.on b2) hpc hcm)
    have B3 := Lib.hid (b2.alloc b2.size (.cells #[.slice A p c] 24))
    have X2 := Lib.hid (X1.alloc (.cells #[.slice A p c] 24))
    clear b b1 x0 b2 X1
    go_wp2_with fail
    refine (hasCodes_any (p : Int) v _ 1 _ [xs] _ S2.out (by omega) HY.out).mono ?_
    rw [HAX.out]
    rintro e w2 ⟨rfl, b3⟩
    have K1 := Lib.hid (X2.out.on b3)
    have C1 := Lib.hid (below_trans' B3.out b3)
    clear b3 S2 B3 X2 c0 c1
    obtain ⟨q0, q1⟩ := K1.out.cells
    have p5 : (p : Int) ≤ 5 := s1
    go_wp2
    go_region_held3 (fun w' => w'.cell? ⟨w.heap.size, 0, none⟩ = some (.int .i64 (p : Int)) ∧ w'.cell? ⟨w.heap.size, 1, none⟩ = some (.int .i64 v))
      (first
        | go_keep
        | with_reducible exact K2.out.cells
        | with_reducible exact K3.out.cells
        | with_reducible exact K4.out.cells)
      (first
        | (go_at_call 55; refine (count_any (p : Int) v _ HY.out).mono ?_; rintro e w3 ⟨rfl, b3⟩; have K2 := Lib.hid ((K1.out.drewN 1).on b3); have C2 := Lib.hid (below_trans' (below_drewN C1.out 1) b3))
        | (go_at_call 54; refine (families_at p _ v d _ (powC v p).toNat _ rfl (by simp; have := HP.out; omega) HS.out (by have := HP.out; omega)).mono ?_; rintro e w4 ⟨rfl, F4, b4⟩; have K3 := Lib.hid (K2.out.on b4); have C3 := Lib.hid (below_trans' C2.out b4))
        | (go_at_call 53; refine (inOrder_at p _ v _ _ _ _ rfl (by omega) (by omega) F4 (by rw [List.length_take]; have := HP.out; omega)).mono ?_; rintro e w5 ⟨V5, n5, c5, gs5, rfl, R5, z5, y5, b5⟩; have K4 := Lib.hid (K3.out.on b5); have C4 := Lib.hid (below_trans' C3.out b5)))
    all_goals
      rw [all_take] at R5
      obtain ⟨F, hFe⟩ : ∃ F, F = famTo p v d (powC v p).toNat := ⟨_, rfl⟩
      rw [← hFe] at R5
      have HFE := Lib.hid hFe
      have hn5 : F.length = n5 := R5.len
      have hpos : 0 < n5 := by rw [← hn5, hFe]; exact fam_pos (by have := HP.out; omega)
      have hn3 : n5 ≤ 3125 := by have h1 := fam_count p v d (powC v p).toNat; have h2 := HP.out; rw [← hn5, hFe]; omega
      have HFL : Hid (∀ (j : Nat) (f : List Int), F[j]? = some f → f.length = p) := Lib.hid (fun j f hj => fam_len (by rw [hFe] at hj; exact hj))
      have HR := Lib.hid R5
      have hsz3 : w.heap.size ≤ w4.heap.size := C3.out.size
      have HI := Lib.hid (h.on C4.out)
      have HN5 := Lib.hid hn5
      have p1 : 1 ≤ p := by omega
      clear q0 q1 K1 K2 K3 K4 F4 b3 b4 b5 R5 C2 C3 hFe hn5
      go_wp2
      go_loopw [11, 12, 39] (fun z l i wr => ∃ k q : Nat, k ≤ n5 ∧ i = .int .i64 k ∧ Hid (NearV p gs5 F xs k z l) ∧ wr = w5.drewN q) (fun _ _ i _ => n5 - (intOf i).toNat)
      case atStart => exact ⟨0, 0, Nat.zero_le _, rfl, Lib.hid (.inl ⟨rfl, rfl, rfl⟩), rfl⟩
      case round =>
        obtain ⟨k, q, hk, rfl, HV, rfl⟩ := hrel
        by_cases hlt : k < n5
        · obtain ⟨ad, a, f, rfl, _, _, hga, hgf, hcell⟩ := HR.out.at_ hlt
          obtain ⟨g1, g2, g3, g4⟩ := HR.out.inner k a f hga hgf
          have HGA := Lib.hid hga
          have HGF := Lib.hid hgf
          have hfl := HFL.out k f hgf
          obtain ⟨y, rfl, hy⟩ := HV.out.least
          have hyy := hy f hgf hfl
          obtain ⟨a1, a2, a3⟩ := a
          have ha2 : p = a2 := by have : f.length = a2 := g1; omega
          subst ha2
          obtain ⟨ad', e1, hs', _⟩ := g4 p1
          have e1' : a1 = some ad' := e1
          subst e1'
          have hi' : Ints (w5.drewN q) (w5.drewN q).heap.size (some ad') p f := ints_drewN (Own.ints hs') q
          have HI' : Hid (Ints (w5.drewN q) (w5.drewN q).heap.size A p xs) := Lib.hid (ints_drewN HI.out q)
          have hcell' : w5.cell? (ad.add k) = some (.slice (some ad') p a3) := hcell
          clear hga hgf g1 g4 hy e1 hs' hcell
          rcases hyy with hd | ⟨hd, hk1, hye⟩
          · have HT := Lib.hid (HV.out.take HGF.out HGA.out hd)
            go_wp2_with (go_at_call 56; refine (cutDifference_any _ _ _ _ _ f xs _ hi' HI'.out (by omega)).mono ?_; rintro e w6 ⟨rfl, q6, rfl⟩)
            go_roundw
            case rel => exact ⟨k + 1, _, by omega, by go_num, HT, rfl⟩
            case measure => simp [intOf]; omega
          · have HT := Lib.hid (HV.out.keep HGF.out hk1 hye hd)
            clear hye
            go_wp2_with (go_at_call 56; refine (cutDifference_any _ _ _ _ _ f xs _ hi' HI'.out (by omega)).mono ?_; rintro e w6 ⟨rfl, q6, rfl⟩)
            go_roundw
            case rel => exact ⟨k + 1, _, by omega, by go_num, HT, rfl⟩
            case measure => simp [intOf]; omega
        · have hkn : k = n5 := by omega
          have hv := HV.out
          rw [hkn] at hv
          rcases hv with ⟨h0, _, _⟩ | ⟨_, j, a, hga, hgf, hz, hl⟩
          · omega
          · obtain ⟨g1, g2, g3, g4⟩ := HR.out.inner j a _ hga hgf
            have hfl := HFL.out j _ hgf
            obtain ⟨a1, a2, a3⟩ := a
            have ha2 : p = a2 := by have : (nfTo F xs n5).length = a2 := g1; omega
            subst ha2
            obtain ⟨ad', e1, hs', hlow, _⟩ := g4 p1
            have e1' : a1 = some ad' := e1
            subst e1'
            have hz' : u11 = .slice (some ad') p a3 := hz
            have HO : Hid (Own (w5.drewN q) w.heap.size (w5.drewN q).heap.size (some ad') p (nfTo F xs n5)) := Lib.hid (Own.more (Own.below hs' (below_drewN (Below.refl _ _) q)) (by omega) hs'.lt (Nat.le_refl _))
            have HZ := Lib.hid (And.intro g2 g3)
            subst hz'
            clear hga hgf g1 g2 g3 g4 hz hl hs' e1
            go_wp2
            go_ret2
            refine ⟨_, _, _, rfl, ?_, by omega, HZ.out.1, HZ.out.2, below_drewN C4.out q⟩
            rw [← HFE.out, HN5.out]
            exact HO.out

set_option maxHeartbeats 2000000 in
theorem specNearestFamily_any (s v d : Int) (A : Option Addr) (p c : Nat) (xs : List Int) (w : World) (h : Ints w w.heap.size A p xs) (hp : p ≤ 1048576) :
    Calls Try.prog 16 #[.int .i64 s, .int .i64 v, .int .i64 d, .slice A p c] w
      fun e w' => ∃ A' n c', e = .returned (.tuple #[.slice A' n c', .int .i64 (nfE s v d xs)]) ∧ Ints w' w'.heap.size A' n (nfL s v d xs) ∧ n ≤ 1048576 ∧ Below w.heap.size w w' := by
  have HL := Lib.hid h.len
  rcases hs : sdB s v d with _ | _
  · rw [(nf_no hs).1, (nf_no hs).2]
    go_enter Try.func16, Try.ntmps16
    go_wp2_with (go_at_call 57; refine (l07Distance_any _ _ _ _).mono ?_; rw [hs]; rintro e w' ⟨rfl, rfl⟩)
    go_ret2
    exact ⟨none, 0, 0, rfl, ⟨rfl, fun h => absurd h (by omega)⟩, by omega, Below.refl _ _⟩
  have HY := Lib.hid (sd_true hs).1
  obtain ⟨hy, d0, d1⟩ := sd_true hs
  obtain ⟨s0, s1, v0, v1⟩ := sys_true hy
  clear hy
  rcases hx : sideB s v xs with _ | _
  · rw [(nf_bad hs hx).1, (nf_bad hs hx).2]
    go_enter Try.func16, Try.ntmps16
    go_wp2_with (first | (go_at_call 57; refine (l07Distance_any _ _ _ _).mono ?_; rw [hs]; rintro e w' ⟨rfl, rfl⟩) | (go_at_call 58; refine (l07Code_any _ _ _ _ _ xs _ h hp HY.out).mono ?_; rw [hx]; rintro e w' ⟨rfl, rfl⟩))
    go_ret2
    exact ⟨none, 0, 0, rfl, ⟨rfl, fun h => absurd h (by omega)⟩, by omega, Below.refl _ _⟩
  · rw [(nf_yes hs hx).1, (nf_yes hs hx).2]
    obtain ⟨S, rfl⟩ : ∃ S : Nat, s = (S : Int) := ⟨s.toNat, by omega⟩
    have hxl : xs.length = S := by have := (side_true hx).1; omega
    obtain rfl : p = S := by have := HL.out; omega
    have HP := Lib.hid (pow_small (k := p) v0 v1 (by omega))
    have HA : Hid (famAll (p : Int) v d = famTo p v d (powC v p).toNat) := Lib.hid (by unfold famAll; rw [Int.toNat_natCast])
    rw [HA.out]
    obtain ⟨F, hFe⟩ : ∃ F, F = famTo p v d (powC v p).toNat := ⟨_, rfl⟩
    rw [← hFe]
    have HFE := Lib.hid hFe
    have HI0 := Lib.hid h
    clear hFe hxl h
    go_enter Try.func16, Try.ntmps16
    go_wp2_with (first | (go_at_call 57; refine (l07Distance_any _ _ _ _).mono ?_; rw [hs]; rintro e w' ⟨rfl, rfl⟩) | (go_at_call 58; refine (l07Code_any _ _ _ _ _ xs _ HI0.out hp HY.out).mono ?_; rw [hx]; rintro e w' ⟨rfl, rfl⟩))
    refine (l07Families_any p v d _ hs).mono ?_
    rw [← HFE.out]
    rintro e w1 ⟨V, n, c1, rfl, hS, hc1, hc2, hn, b1⟩
    have hpos : 0 < n := by
      rw [← hS.len, HFE.out]
      exact fam_pos (by have := HP.out; omega)
    have HFL : Hid (∀ (j : Nat) (f : List Int), F[j]? = some f → f.length = p) := Lib.hid (fun j f hj => fam_len (by rw [HFE.out] at hj; exact hj))
    obtain ⟨ad, f0, A0, q0, c0, rfl, _, hf0, hc0, hi0, _, _⟩ := hS.at_ hpos
    obtain rfl : p = q0 := by have h1 := HFL.out 0 f0 hf0; have h2 := hi0.len; omega
    have HS := Lib.hid hS
    have HN := Lib.hid hS.len
    have B1 := Lib.hid b1
    have HI := Lib.hid (HI0.out.on b1)
    have H0 := Lib.hid hi0
    have HF0 : Hid (nfTo F xs 1 = f0) := Lib.hid (by rw [nf_one, getD_list hf0])
    have hc0' : w1.cell? ad = some (.slice A0 p c0) := by simpa [Addr.add] using hc0
    clear hS hf0 hi0 b1 hc0 hx hs
    go_wp2
    go_loopw [11, 12] (fun z i wr => ∃ (k q : Nat) (Ab : Option Addr) (cb : Nat), 1 ≤ k ∧ k ≤ n ∧ i = .int .i64 k ∧ z = .slice Ab p cb ∧ Hid (Ints w1 w1.heap.size Ab p (nfTo F xs k)) ∧ wr = w1.drewN q) (fun _ i _ => n - (intOf i).toNat)
    case atStart => exact ⟨1, 0, A0, c0, Nat.le_refl _, hpos, rfl, rfl, by rw [HF0.out]; exact H0, rfl⟩
    case round =>
      obtain ⟨k, q, Ab, cb, hk1, hk, rfl, rfl, HB, rfl⟩ := hrel
      clear hc0' H0
      by_cases hlt : k < n
      · obtain ⟨ad2, f, Af, qf, cf, e2, _, hgf, hcell, hif, _, _⟩ := HS.out.at_ hlt
        obtain rfl : ad = ad2 := by injection e2
        obtain rfl : p = qf := by have h1 := HFL.out k f hgf; have h2 := hif.len; omega
        have HGF := Lib.hid hgf
        have HIF := Lib.hid hif
        clear hgf hif e2
        by_cases hd : diffI f xs < diffI (nfTo F xs k) xs
        · have HT : Hid (nfTo F xs (k + 1) = f) := Lib.hid (nf_take hk1 HGF.out hd)
          go_wp2_with fail
          refine (l03Difference_any _ _ _ _ _ f xs _ (ints_drewN HIF.out q) (ints_drewN HI.out q) hp).mono ?_
          rintro e w6 ⟨rfl, q6, rfl⟩
          go_wp2_with fail
          refine (l03Difference_any _ _ _ _ _ (nfTo F xs k) xs _ (ints_drewN HB.out _) (ints_drewN HI.out _) hp).mono ?_
          rintro e w7 ⟨rfl, q7, rfl⟩
          go_wp2
          go_roundw
          case rel => exact ⟨k + 1, _, Af, cf, by omega, by omega, by go_num, rfl, by rw [HT.out]; exact HIF, rfl⟩
          case measure => simp [intOf]; omega
        · have HT : Hid (nfTo F xs (k + 1) = nfTo F xs k) := Lib.hid (nf_keep hk1 HGF.out hd)
          go_wp2_with fail
          refine (l03Difference_any _ _ _ _ _ f xs _ (ints_drewN HIF.out q) (ints_drewN HI.out q) hp).mono ?_
          rintro e w6 ⟨rfl, q6, rfl⟩
          go_wp2_with fail
          refine (l03Difference_any _ _ _ _ _ (nfTo F xs k) xs _ (ints_drewN HB.out _) (ints_drewN HI.out _) hp).mono ?_
          rintro e w7 ⟨rfl, q7, rfl⟩
          go_wp2
          go_roundw
          case rel => exact ⟨k + 1, _, Ab, cb, by omega, by omega, by go_num, rfl, by rw [HT.out]; exact HB, rfl⟩
          case measure => simp [intOf]; omega
      · have HK : Hid (k = F.length) := Lib.hid (by have := HN.out; omega)
        go_wp2
        go_ret2
        exact ⟨Ab, p, cb, rfl, by rw [← HK.out]; exact ints_drewN HB.out q, hp, below_drewN B1.out q⟩

end Go.Proofs.Ytpabccgndhmcdaa

namespace Go.Proofs.Ytpabccgndhmcdaa
open Go.RowKit

set_option maxHeartbeats 2000000 in
theorem lawNearestFamily_any (s v d : Int) (A : Option Addr) (n c : Nat) (xs : List Int) (W : World) (h : Ints W W.heap.size A n xs) :
    Calls Try.prog 10 #[.int .i64 s, .int .i64 v, .int .i64 d, .slice A n c] W fun e w' => e = .returned (.bool true) ∧ Below W.heap.size W w' := by
  by_cases hn' : ¬ n ≤ 1048576
  · go_enter Try.func10, Try.ntmps10
    go_wp2
    go_ret
    exact ⟨rfl, Below.refl _ _⟩
  have hn := Decidable.not_not.1 hn'
  clear hn'
  have e1 : (nfE s v d xs != nfE s v d xs) = false := by simp
  obtain ⟨L, hL⟩ : ∃ L, nfL s v d xs = L := ⟨_, rfl⟩
  have HLL := Lib.hid hL
  clear hL
  go_enter Try.func10, Try.ntmps10
  go_wp2_with fail
  refine (toInt64S_any _ _ _ xs _ h hn).mono ?_
  rintro e w1 ⟨g1, rfl, _, r1, c1⟩
  have i1 := Ints.of_row r1 h.len
  clear r1
  go_wp2_with fail
  refine (specNearestFamily_any s v d _ _ _ xs _ i1 hn).mono ?_
  rw [HLL.out]
  rintro e w2 ⟨Aw, nw, cw, rfl, iw, hnw, b2⟩
  have c2 := below_trans' c1 b2
  have HW := Lib.hid iw
  have hWl := iw.len
  have c2s := c2.size
  clear i1 c1 b2 iw
  go_wp2_with fail
  refine (toInt64S_any _ _ _ xs _ (h.on c2) hn).mono ?_
  rintro e w3 ⟨g3, rfl, hg3, r3, b3⟩
  have ox3 := Own.of_row r3 h.len hg3
  have c3 := below_trans' c2 b3
  have s3 := b3.size
  have bw3 := b3
  clear r3 c2 b3 hg3
  go_wp2_with fail
  refine (nearestFamily_any s v d _ _ _ xs _ ox3.ints hn (Nat.le_refl _) (by omega)).mono ?_
  rw [HLL.out]
  rintro e w4 ⟨Ag, ng, cg, rfl, og4, hng, _, _, b4⟩
  obtain rfl : nw = ng := by rw [← hWl, ← og4.len]
  have ox4 := ox3.below b4
  have c4 := below_trans' c3 b4
  have s4 := b4.size
  have bw4 := below_trans' bw3 b4
  clear c3 b4 ox3 bw3
  go_wp2_with fail
  refine (eqInts_true _ _ _ _ _ _ _ og4.ints (HW.out.on bw4) hnw).mono ?_
  rintro e w5 ⟨rfl, b5⟩
  have ox5 := ox4.below b5
  have og5 := og4.below b5
  have c5 := below_trans' c4 b5
  have bw5 := below_trans' bw4 b5
  clear c4 b5 ox4 og4 bw4
  go_wp2_with fail
  refine (toInt64S_any _ _ _ xs _ (h.on c5) hn).mono ?_
  rintro e w6 ⟨g6, rfl, _, r6, b6⟩
  have i6 := Ints.of_row r6 h.len
  have ox6 := ox5.below b6
  have og6 := og5.below b6
  have c6 := below_trans' c5 b6
  have bw6 := below_trans' bw5 b6
  clear r6 c5 b6 ox5 og5 bw5
  go_wp2_with fail
  refine (eqInts_true _ _ _ _ _ _ _ ox6.ints i6 hn).mono ?_
  rintro e w7 ⟨rfl, b7⟩
  have ox7 := ox6.below b7
  have og7 := og6.below b7
  have c7 := below_trans' c6 b7
  have bw7 := below_trans' bw6 b7
  clear c6 b7 ox6 og6 i6 bw6
  go_wp2_with fail
  refine (markInts_any _ _ _ _ 1 _ _ _ ox7 hn (by omega) (by omega)).mono ?_
  rintro e w8 ⟨rfl, _, row, hgr, hrow⟩
  have og8 := og7.apart hgr (fun g e => .inl (hrow g e).2)
  have c8 := below_grown c7 hgr (fun g e => by have := (hrow g e).1; omega)
  have bw8 := below_grown bw7 hgr (fun g e => by have := (hrow g e).1; omega)
  clear hgr hrow row c7 ox7 og7 bw7
  have hk : ¬ (1 + (n : Int)) < 0 := by omega
  go_wp2_with fail
  refine (eqInts_true _ _ _ _ _ _ _ og8.ints (HW.out.on bw8) hnw).mono ?_
  rintro e w9 ⟨rfl, b9⟩
  have og9 := og8.below b9
  have c9 := below_trans' c8 b9
  have bw9 := below_trans' bw8 b9
  clear b9 og8 c8 bw8
  go_wp2_with fail
  refine (markInts_any _ _ _ _ 1 _ _ _ og9 hnw (by omega) (by omega)).mono ?_
  rintro e w10 ⟨rfl, og10, row, hgr, hrow⟩
  have c10 := below_grown c9 hgr (fun g e => by have := (hrow g e).1; omega)
  have bw10 := below_grown bw9 hgr (fun g e => by have := (hrow g e).1; omega)
  clear hgr hrow row c9 og9 bw9
  go_wp2_with fail
  refine (heldInts_any _ _ _ 1 _ og10.ints hnw (by omega) (by omega)).mono ?_
  rintro e w' ⟨rfl, rfl⟩
  have q1 : ((1 + (nw : Int)) != (1 + (nw : Int))) = false := by simp
  go_wp2_with fail
  refine (toInt64S_any _ _ _ xs _ (h.on c10) hn).mono ?_
  rintro e w11 ⟨g11, rfl, _, r11, b11⟩
  have i11 := Ints.of_row r11 h.len
  have og11 := og10.below b11
  have c11 := below_trans' c10 b11
  have bw11 := below_trans' bw10 b11
  clear r11 b11 c10 og10 bw10
  go_wp2_with fail
  refine (nearestFamily_any s v d _ _ _ xs _ i11 hn (Nat.le_refl _) (by omega)).mono ?_
  rw [HLL.out]
  rintro e w12 ⟨Ah, nh, ch, rfl, oh12, hnh, _, _, b12⟩
  obtain rfl : nw = nh := by rw [← hWl, ← oh12.len]
  have og12 := og11.below b12
  have c12 := below_trans' c11 b12
  have bw12 := below_trans' bw11 b12
  clear b12 c11 og11 i11 bw11
  go_wp2_with fail
  refine (eqInts_true _ _ _ _ _ _ _ oh12.ints (HW.out.on bw12) hnw).mono ?_
  rintro e w13 ⟨rfl, b13⟩
  have og13 := og12.below b13
  have c13 := below_trans' c12 b13
  clear b13 c12 og12 oh12
  go_wp2_with fail
  refine (heldInts_any _ _ _ 1 _ og13.ints hnw (by omega) (by omega)).mono ?_
  rintro e w' ⟨rfl, rfl⟩
  go_wp2
  go_ret
  exact ⟨rfl, c13⟩

end Go.Proofs.Ytpabccgndhmcdaa
