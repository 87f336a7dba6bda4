/- What families are: apart from each other, near to every code, no more than the bound. Plain lists. -/
import Derived.Test.YtpabccgndhmcdaaNearF
import Derived.Test.YtpabccgndhmcdaaDigs
namespace Go.Proofs.Ytpabccgndhmcdaa
open Go.RowKit

theorem fam_far (s : Nat) (v d : Int) : ∀ k, (famTo s v d k).Pairwise (fun f g => d ≤ diffI f g)
  | 0 => List.Pairwise.nil
  | k + 1 => by
    rcases hf : farB d (famTo s v d k) (codeN s v k) with _ | _
    · rw [fam_not hf]; exact fam_far s v d k
    · rw [fam_yes hf, List.pairwise_append]
      refine ⟨fam_far s v d k, List.pairwise_singleton _ _, fun a ha b hb => ?_⟩
      rw [List.mem_singleton] at hb
      subst hb
      unfold farB at hf
      rw [List.all_eq_true] at hf
      exact of_decide_eq_true (hf a ha)
theorem apart_of {d : Int} {yss : List (List Int)} {n : Nat} (hn : ∀ f ∈ yss, f.length = n) (h : yss.Pairwise (fun f g => d ≤ diffI f g)) : apartB d yss yss.length = true := by
  unfold apartB awayB
  rw [List.all_eq_true]
  intro i hi
  rw [List.mem_range] at hi
  rw [List.all_eq_true]
  intro j hj
  rw [List.mem_range] at hj
  have hji : j < yss.length := by omega
  have e1 : yss.getD i [] = yss[i] := by rw [List.getD_eq_getElem?_getD, List.getElem?_eq_getElem hi]; rfl
  have e2 : yss.getD j [] = yss[j] := by rw [List.getD_eq_getElem?_getD, List.getElem?_eq_getElem hji]; rfl
  have := List.pairwise_iff_getElem.1 h j i hji hi hj
  rw [e1, e2, diffI_comm ((hn _ (List.getElem_mem hi)).trans (hn _ (List.getElem_mem hji)).symm)]
  exact decide_eq_true this
theorem fam_side {s : Nat} {v d : Int} {k : Nat} {f : List Int} (hv : 2 ≤ v) (h : f ∈ famTo s v d k) : sideB (s : Int) v f = true := by
  obtain ⟨j, _, rfl⟩ := fam_mem h
  unfold sideB
  rw [codeN_len, codeN_in _ hv, decide_eq_true rfl]; rfl

/-- the first families are side codes, apart -/
theorem fo_apart {s v d m : Int} (h : foOk s v d m = true) : apV s v d (foL s v d m) = true ∧ apE s v d (foL s v d m) = 0 := by
  have hs : sdB s v d = true := by unfold foOk at h; rw [Bool.and_eq_true] at h; exact h.1
  have hm : inB m 0 60 = true := by unfold foOk at h; rw [Bool.and_eq_true] at h; exact h.2
  obtain ⟨m0, m1⟩ := inB_true.1 hm
  obtain ⟨hy, d1, _⟩ := sd_true hs
  obtain ⟨s0, s1, v0, v1⟩ := sys_true hy
  obtain ⟨S, rfl⟩ := Int.eq_ofNat_of_zero_le (show 0 ≤ s by omega)
  have e := (fo_yes h).1
  have hin : ∀ f ∈ foL S v d m, f ∈ famTo S v d (powC v S).toNat := fun f hf => by
    rw [e] at hf
    exact List.mem_of_mem_take hf
  have hall : allB S v (foL S v d m) = true := by
    unfold allB
    rw [List.all_eq_true]
    exact fun f hf => fam_side v0 (hin f hf)
  have hlen : (foL S v d m).length ≤ 60 := by
    rw [e, List.length_take]
    omega
  obtain ⟨a1, a2⟩ := ap_yes rfl hs hall hlen
  refine ⟨?_, a2⟩
  rw [a1]
  refine apart_of (n := S) (fun f hf => ?_) ?_
  · have := (side_true (fam_side v0 (hin f hf))).1
    omega
  · rw [e]
    exact List.Pairwise.sublist (List.take_sublist _ _) (fam_far _ _ _ _)

/-! ### the nearest one -/
theorem nf_least (F : List (List Int)) (xs : List Int) : ∀ k, 1 ≤ k → k ≤ F.length → nfTo F xs k ∈ F ∧ ∀ j f, j < k → F[j]? = some f → diffI (nfTo F xs k) xs ≤ diffI f xs
  | 0, h, _ => absurd h (by omega)
  | k + 1, _, hk => by
    by_cases k0 : k = 0
    · subst k0
      have e : F[0]? = some F[0] := List.getElem?_eq_getElem (by omega)
      rw [nf_one, getD_list e]
      refine ⟨List.getElem_mem _, fun j f hj hf => ?_⟩
      obtain rfl : j = 0 := by omega
      obtain rfl := Option.some.inj (e.symm.trans hf)
      exact Int.le_refl _
    · obtain ⟨h1, h2⟩ := nf_least F xs k (by omega) (by omega)
      have e : F[k]? = some F[k] := List.getElem?_eq_getElem (by omega)
      by_cases hd : diffI F[k] xs < diffI (nfTo F xs k) xs
      · rw [nf_take (by omega) e hd]
        refine ⟨List.getElem_mem _, fun j f hj hf => ?_⟩
        by_cases hjk : j < k
        · have := h2 j f hjk hf
          omega
        · obtain rfl : j = k := by omega
          obtain rfl := Option.some.inj (e.symm.trans hf)
          exact Int.le_refl _
      · rw [nf_keep (by omega) e hd]
        refine ⟨h1, fun j f hj hf => ?_⟩
        by_cases hjk : j < k
        · exact h2 j f hjk hf
        · obtain rfl : j = k := by omega
          obtain rfl := Option.some.inj (e.symm.trans hf)
          omega
/-! ### numbers of codes -/
theorem digs_of {s : Nat} {v : Int} {xs : List Int} (h : allIn 0 (v - 1) xs = true) : digsB (xs.zip (List.replicate s v)) = true := by
  unfold digsB
  rw [List.all_eq_true]
  rintro ⟨a, b⟩ hp
  have h1 := List.of_mem_zip hp
  have hb : b = v := (List.mem_replicate.1 h1.2).2
  subst hb
  unfold allIn at h
  exact List.all_eq_true.1 h a h1.1
theorem code_back {s : Nat} {v : Int} {xs : List Int} (hs : s ≤ 5) (hv : 2 ≤ v) (hv5 : v ≤ 5) (hl : xs.length = s) (h : allIn 0 (v - 1) xs = true) : codeN s v (pre xs (List.replicate s v) s) = xs := by
  have := digits_pre (digs_of (s := s) h) (withB_true (rep_bases hs hv hv5)).2 (by rw [hl, List.length_replicate])
  rw [List.length_replicate] at this
  exact this
theorem place {xs : List Int} {v : Int} {k s : Nat} (hk : k < s) (hl : xs.length = s) (h : allIn 0 (v - 1) xs = true) : 0 ≤ xs.getD k 0 ∧ xs.getD k 0 ≤ v - 1 := by
  have hv : xs[k]? = some (xs[k]'(by omega)) := List.getElem?_eq_getElem (by omega)
  rw [List.getD_eq_getElem?_getD, hv]
  exact allIn_at h hv
theorem pre_step {s : Nat} {v : Int} {xs : List Int} {k : Nat} (hk : k < s) : pre xs (List.replicate s v) (k + 1) = pre xs (List.replicate s v) k * v + xs.getD k 0 := by
  show pre xs (List.replicate s v) k * (List.replicate s v).getD k 1 + xs.getD k 0 = _
  rw [rep_getD hk]
theorem pre_less {s : Nat} {v : Int} {xs : List Int} (hs : s ≤ 5) (hv : 2 ≤ v) (hv5 : v ≤ 5) (hl : xs.length = s) (h : allIn 0 (v - 1) xs = true) : ∀ k, k ≤ s → 0 ≤ pre xs (List.replicate s v) k ∧ pre xs (List.replicate s v) k < powC v k
  | 0, _ => by simp [pre, powC]
  | k + 1, hk => by
    obtain ⟨i0, i1⟩ := pre_less hs hv hv5 hl h k (by omega)
    obtain ⟨p0, p1⟩ := place (show k < s by omega) hl h
    obtain ⟨e, _, _⟩ := pow_next hv hv5 (show k ≤ 5 by omega)
    rw [pre_step (by omega), e]
    generalize pre xs (List.replicate s v) k = a at *
    generalize powC v k = b at *
    have h1 : 0 ≤ a * v := Int.mul_nonneg i0 (by omega)
    have h2 : (a + 1) * v ≤ b * v := Int.mul_le_mul_of_nonneg_right (by omega) (by omega)
    rw [Int.add_mul] at h2
    omega
theorem pre_same {s : Nat} {v : Int} {xs ys : List Int} (hv : 2 ≤ v) (hl : xs.length = s) (h : allIn 0 (v - 1) xs = true) (hl' : ys.length = s) (h' : allIn 0 (v - 1) ys = true) :
    ∀ k, k ≤ s → pre xs (List.replicate s v) k = pre ys (List.replicate s v) k → diffTo xs ys k = 0
  | 0, _, _ => rfl
  | k + 1, hk, e => by
    rw [pre_step (by omega), pre_step (by omega)] at e
    obtain ⟨p0, p1⟩ := place (show k < s by omega) hl h
    obtain ⟨q0, q1⟩ := place (show k < s by omega) hl' h'
    have e1 : (pre xs (List.replicate s v) k * v + xs.getD k 0) / v = pre xs (List.replicate s v) k := by
      rw [Int.add_comm, Int.add_mul_ediv_right _ _ (by omega), Int.ediv_eq_zero_of_lt p0 (by omega), Int.zero_add]
    have e2 : (pre ys (List.replicate s v) k * v + ys.getD k 0) / v = pre ys (List.replicate s v) k := by
      rw [Int.add_comm, Int.add_mul_ediv_right _ _ (by omega), Int.ediv_eq_zero_of_lt q0 (by omega), Int.zero_add]
    rw [e, e2] at e1
    have e3 : xs.getD k 0 = ys.getD k 0 := by rw [e1] at e; omega
    have i := pre_same hv hl h hl' h' k (by omega) e1.symm
    have e4 : diffTo xs ys (k + 1) = diffTo xs ys k + unlike (xs.getD k 0) (ys.getD k 0) := rfl
    rw [e4, i, e3]
    simp [unlike]
theorem diff_more (xs ys : List Int) (p : Nat) : ∀ r : Nat, diffTo xs ys (p + r) ≤ diffTo xs ys p + r
  | 0 => by simp
  | r + 1 => by
    have i := diff_more xs ys p r
    have e : diffTo xs ys (p + r + 1) = diffTo xs ys (p + r) + unlike (xs.getD (p + r) 0) (ys.getD (p + r) 0) := rfl
    have h2 := unlike_le (xs.getD (p + r) 0) (ys.getD (p + r) 0)
    rw [← Nat.add_assoc, e]
    omega
theorem pigeons : ∀ (M : Nat) (l : List Nat), l.Nodup → (∀ x ∈ l, x < M) → l.length ≤ M
  | 0, l, _, h => by
    cases l with
    | nil => simp
    | cons a t => exact absurd (h a (by simp)) (by omega)
  | M + 1, l, hd, h => by
    by_cases hm : M ∈ l
    · have i := pigeons M (l.erase M) (hd.erase M) (fun x hx => by
        have hx' := (hd.mem_erase_iff).1 hx
        have := h x hx'.2
        have := hx'.1
        omega)
      rw [List.length_erase_of_mem hm] at i
      omega
    · have i := pigeons M l hd (fun x hx => by
        have := h x hx
        have : x ≠ M := fun e => hm (e ▸ hx)
        omega)
      omega

/-- every code is near to a family -/
theorem fam_near {s v d : Int} {xs : List Int} (hs : sdB s v d = true) (hx : sideB s v xs = true) : ∃ f ∈ famAll s v d, diffI f xs < d := by
  obtain ⟨hy, d1, _⟩ := sd_true hs
  obtain ⟨s0, s1, v0, v1⟩ := sys_true hy
  obtain ⟨S, rfl⟩ := Int.eq_ofNat_of_zero_le (show 0 ≤ s by omega)
  obtain ⟨hl, ha⟩ := side_true hx
  have hl' : xs.length = S := by omega
  obtain ⟨n0, n1⟩ := pre_less (by omega) v0 v1 hl' ha S (Nat.le_refl _)
  have hc := code_back (by omega) v0 v1 hl' ha
  obtain ⟨n, hn⟩ := Int.eq_ofNat_of_zero_le n0
  rw [hn] at hc n1
  have hlt : n < (powC v S).toNat := by omega
  show ∃ f ∈ famTo S v d (powC v S).toNat, _
  rcases hf : farB d (famTo S v d n) (codeN S v n) with _ | _
  · have hf' : ¬ ∀ y ∈ famTo S v d n, decide (d ≤ diffI y (codeN S v n)) = true := fun hh => by
      rw [← List.all_eq_true] at hh
      unfold farB at hf
      rw [hf] at hh
      exact Bool.noConfusion hh
    obtain ⟨y, hyy⟩ := Classical.not_forall.1 hf'
    obtain ⟨hm, hd⟩ := Classical.not_imp.1 hyy
    obtain ⟨r, hr⟩ := fam_pre S v d n _ (Nat.le_of_lt hlt)
    refine ⟨y, by rw [hr]; exact List.mem_append_left _ hm, ?_⟩
    rw [hc] at hd
    have : ¬ d ≤ diffI y xs := fun k => hd (decide_eq_true k)
    omega
  · obtain ⟨r, hr⟩ := fam_pre S v d (n + 1) _ hlt
    refine ⟨xs, ?_, ?_⟩
    · rw [hr, fam_yes hf, hc]
      simp
    · rw [(diffI_zero rfl).2 rfl]
      omega
/-- the nearest family is a code nearer than the distance -/
theorem nf_near {s v d : Int} {xs : List Int} (hs : sdB s v d = true) (hx : sideB s v xs = true) : sideB s v (nfL s v d xs) = true ∧ diffI (nfL s v d xs) xs < d := by
  obtain ⟨f, hf, hd⟩ := fam_near hs hx
  have e := (nf_yes hs hx).1
  have h1 : 1 ≤ (famAll s v d).length := List.length_pos_of_mem hf
  obtain ⟨hm, hle⟩ := nf_least (famAll s v d) xs _ h1 (Nat.le_refl _)
  rw [← e] at hm hle
  obtain ⟨hy, _, _⟩ := sd_true hs
  obtain ⟨s0, _, v0, _⟩ := sys_true hy
  obtain ⟨S, rfl⟩ := Int.eq_ofNat_of_zero_le (show 0 ≤ s by omega)
  refine ⟨fam_side v0 hm, ?_⟩
  obtain ⟨j, hj⟩ := List.getElem?_of_mem hf
  have := hle j f (List.getElem?_eq_some_iff.1 hj).1 hj
  omega
/-- there are no more families than the bound -/
theorem fam_bound {s v d : Int} (hs : sdB s v d = true) : cfV s v d ≤ fbV s v d := by
  rw [(cf_yes hs).1, (fb_yes hs).1]
  obtain ⟨hy, d1, d2⟩ := sd_true hs
  obtain ⟨s0, s1, v0, v1⟩ := sys_true hy
  obtain ⟨S, rfl⟩ := Int.eq_ofNat_of_zero_le (show 0 ≤ s by omega)
  obtain ⟨p, hp⟩ := Int.eq_ofNat_of_zero_le (show 0 ≤ (S : Int) - d + 1 by omega)
  rw [hp, Int.toNat_natCast]
  have hpS : p ≤ S := by omega
  have hp0 := (pow_small v0 v1 (show p ≤ 5 by omega)).1
  have hin : ∀ f ∈ famAll (S : Int) v d, f.length = S ∧ allIn 0 (v - 1) f = true := fun f hf => by
    have := side_true (fam_side v0 hf)
    exact ⟨by omega, this.2⟩
  have hfar := fam_far S v d (powC v S).toNat
  have h := pigeons (powC v p).toNat ((famAll (S : Int) v d).map (fun f => (pre f (List.replicate S v) p).toNat)) (by
    unfold List.Nodup
    rw [List.pairwise_map]
    refine List.Pairwise.imp_of_mem (fun {a b} ha hb hab => ?_) (show (famAll (S : Int) v d).Pairwise _ from hfar)
    intro e
    obtain ⟨la, ia⟩ := hin a ha
    obtain ⟨lb, ib⟩ := hin b hb
    have a0 := pre_less (by omega) v0 v1 la ia p hpS
    have b0 := pre_less (by omega) v0 v1 lb ib p hpS
    have z := pre_same v0 la ia lb ib p hpS (by omega)
    have m := diff_more a b p (S - p)
    rw [z, show p + (S - p) = S by omega] at m
    unfold diffI at hab
    rw [la] at hab
    omega) (fun x hx => by
    obtain ⟨f, hf, rfl⟩ := List.mem_map.1 hx
    obtain ⟨l, i⟩ := hin f hf
    have := pre_less (by omega) v0 v1 l i p hpS
    omega)
  rw [List.length_map] at h
  omega

end Go.Proofs.Ytpabccgndhmcdaa
