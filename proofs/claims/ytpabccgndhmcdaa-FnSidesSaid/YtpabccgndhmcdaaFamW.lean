/- The model's families as a list that may be appended to: what the draw of AreApart wants. -/
import Derived.Test.YtpabccgndhmcdaaFamL
import Derived.Test.YtpabccgndhmcdaaBuilt
import Derived.Lib.MinMax
namespace Go.Proofs.Ytpabccgndhmcdaa
open Go.RowKit

/-- every list of a row lies from a block on -/
def Highs (lo : Nat) (vals : List Value) : Prop := ∀ u ∈ vals, ∀ (ad : Addr) (q c : Nat), u = .slice (some ad) q c → 0 < q → lo ≤ ad.block
theorem Highs.push {lo : Nat} {vals : List Value} {u : Value} (h : Highs lo vals) (hu : ∀ (ad : Addr) (q c : Nat), u = .slice (some ad) q c → 0 < q → lo ≤ ad.block) : Highs lo (vals ++ [u]) := fun x hx ad q c e hq => by
  rw [List.mem_append, List.mem_singleton] at hx
  rcases hx with hx | rfl
  · exact h x hx ad q c e hq
  · exact hu ad q c e hq
theorem Highs.take {lo : Nat} {vals : List Value} (h : Highs lo vals) (k : Nat) : Highs lo (vals.take k) := fun x hx => h x (List.mem_of_mem_take hx)
theorem Stack.zero {w : World} {lo : Nat} : Stack w lo (.slice none 0 0) 0 [] [] := ⟨⟨rfl, .inl ⟨rfl, rfl⟩⟩, rfl, fun j u ys hj => by simp at hj⟩
/-- the first ones of such a row -/
theorem Stack.first {w : World} {lo n j c : Nat} {V : Option Addr} {vals : List Value} {yss : List (List Int)} (h : Stack w lo (.slice V n c) n vals yss) (hj : j ≤ n) (hn : 0 < n) : Stack w lo (.slice V j c) j (vals.take j) (yss.take j) := by
  have hvl := h.vlen
  refine ⟨⟨by rw [List.length_take]; omega, ?_⟩, by rw [List.length_take, h.len]; omega, fun i u ys hu hy => ?_⟩
  · rcases h.row.2 with ⟨_, e⟩ | ⟨g, cap, cur, e, h1, h2, h3, h4, h5, h6⟩
    · omega
    · obtain ⟨rfl, _, rfl⟩ := Value.slice.inj e
      refine .inr ⟨g, c, cur, rfl, h1, h2, by omega, h4, h5, ?_⟩
      rw [← h6, List.take_take]
      congr 1
      omega
  · by_cases hi : i < j
    · rw [List.getElem?_take, if_pos hi] at hu hy
      obtain ⟨A, q, c', e, k1, k2, k3, k4⟩ := h.inner i u ys hu hy
      exact ⟨A, q, c', e, k1, k2, k3, fun hq ad ea => by
        have := k4 hq ad ea
        cases V with
        | none => simp [Value.ownBlock]
        | some a => simpa [Value.ownBlock] using this⟩
    · rw [List.getElem?_take, if_neg hi] at hu
      cases hu

set_option maxRecDepth 100000 in
set_option maxHeartbeats 4000000 in
theorem l07FamiliesW_any (s : Nat) (v d : Int) (w : World) (hs : sdB (s : Int) v d = true) :
    Calls Try.prog 59 #[.int .i64 (s : Int), .int .i64 v, .int .i64 d] w
      fun e w' => ∃ u n vals, e = .returned u ∧ Stack w' w.heap.size u n vals (famTo s v d (powC v s).toNat) ∧ Highs w.heap.size vals ∧ n ≤ 3125 ∧ Below w.heap.size w w' := by
  obtain ⟨hy, d0, d1⟩ := sd_true hs
  obtain ⟨s0, s1, v0, v1⟩ := sys_true hy
  have HP := Lib.hid (pow_small (k := s) v0 v1 (by omega))
  obtain ⟨jj, hj0, hy0, hy1, hy2⟩ := info_parts Try.info24'
  have HG := Lib.hid (And.intro hj0 (And.intro hy0 (And.intro hy1 hy2)))
  have R0 := Lib.hid (Stack.none_ (rowNil (w := w) (t := 24) (s := 1) (base := w.heap.size) (Nat.le_refl _)))
  have b0 := Lib.hid (below_box w (.cells #[] 24))
  clear hj0 hy0 hy1 hy2 hs hy
  go_enter Try.func59, Try.ntmps59
  go_wp2
  go_loopw [7, 8] (fun y x wr => ∃ (k n : Nat) (vals : List Value) (z : Value), z = y ∧ x = .int .i64 k ∧ (k : Int) ≤ powC v s ∧ (famTo s v d k).length = n ∧ n ≤ k ∧ Hid (Highs w.heap.size vals) ∧ Hid (Stack wr w.heap.size z n vals (famTo s v d k)) ∧ Hid (Below w.heap.size w wr)) (fun _ x _ => (5000 - intOf x).toNat)
  case atStart => exact ⟨0, 0, [], _, rfl, rfl, by have := HP.out; omega, rfl, Nat.le_refl _, Lib.hid (fun u hu => by simp at hu), R0, b0⟩
  case round =>
    obtain ⟨k, n, vals, z, rfl, rfl, hk, hn, hnk, hhi, hst, hb⟩ := hrel
    clear R0 b0
    have HN := Lib.hid hn
    have hk3 : k ≤ 3125 := by have := HP.out; omega
    obtain ⟨V, c, rfl, hs1, hc1, hc2⟩ := hst.out.sets
    have HS1 := Lib.hid hs1
    clear hs1 hn
    have hpw : (s : Int).toNat = s := by simp
    by_cases hlt : (k : Int) < powC v s
    · go_wp2_with (go_at_call 65; refine (l07Power_any _ _ _ v0 v1 (by omega) s1).mono ?_; rintro e w' ⟨rfl, rfl⟩)
      refine (l07At_any s v (k : Int) _ (by omega) v0 v1 (by omega) (by omega)).mono ?_
      rintro e w2 ⟨rfl, r2, b2⟩
      have I2 := Lib.hid (Ints.of_row r2 (codeN_len s v k))
      have G2 := Lib.hid r2
      have B2 := Lib.hid (below_trans' hb.out b2)
      have S2 := Lib.hid (hst.out.on b2)
      have T2 := Lib.hid (HS1.out.on b2)
      have hsz := hb.out.size
      have hsz2 := b2.size
      have hg2 := r2.lt
      clear r2 b2
      rcases hf : farB d (famTo s v d k) (codeN s v k) with _ | _
      · have HF := Lib.hid (fam_not hf)
        go_wp2_with fail
        refine (l07Apart_at _ d _ n c _ _ s s _ _ hf T2.out (by omega) I2.out (by omega) (fun j ys hj => fam_len hj)).mono ?_
        rintro e w3 ⟨rfl, q, rfl⟩
        have S3 := Lib.hid (S2.out.drewN q)
        have B3 := Lib.hid (below_drewN B2.out q)
        clear T2 S2 B2 I2 G2 hg2
        go_wp2
        go_roundw
        case rel => exact ⟨k + 1, n, vals, _, rfl, by go_num, by omega, by rw [HF.out]; exact HN.out, by omega, hhi, by rw [HF.out]; exact S3, B3⟩
        case measure => simp [intOf]; omega
      · have HF := Lib.hid (fam_yes hf)
        go_wp2_with fail
        refine (l07Apart_at _ d _ n c _ _ s s _ _ hf T2.out (by omega) I2.out (by omega) (fun j ys hj => fam_len hj)).mono ?_
        rintro e w3 ⟨rfl, q, rfl⟩
        have S3 := Lib.hid (S2.out.drewN q)
        have B3 := Lib.hid (below_drewN B2.out q)
        have I3 : Hid (Ints (w2.drewN q) (w2.drewN q).heap.size (some ⟨wr.heap.size, 0, none⟩) s (codeN s v k)) := Lib.hid (ints_drewN I2.out q)
        have hz3 : wr.heap.size < (w2.drewN q).heap.size := hg2
        have HV : Hid (∀ g, (Value.slice V n c).ownBlock = some g → w.heap.size ≤ g ∧ g < wr.heap.size) := Lib.hid (fun g e => ⟨rowBase hst.out.row g e, by
          rcases hst.out.row.2 with ⟨e1, _⟩ | ⟨g', cap', cur, e1, _, hg', _⟩
          · rw [e1] at e; cases e
          · have h1 := heapLt hg'
            rw [e1] at e
            have : g' = g := by simpa [Value.ownBlock] using e
            omega⟩)
        clear T2 S2 B2 I2 G2 hg2
        generalize w2.drewN q = w4 at S3 B3 I3 hz3 ⊢
        go_wp2_with (at_builtin; refine wpList_append_lies _ rfl _ _ 31 rfl w.heap.size 24 jj _ 1 24 Try.underlying31 HG.out.1 HG.out.2.1 HG.out.2.2.1 HG.out.2.2.2 rfl (by omega) _ n _ rfl (S3.out.row.alloc _) ⟨w4.heap.size, 0, none⟩ 1 1 [.slice (some ⟨wr.heap.size, 0, none⟩) s s] rfl rfl (World.news_of_block (cs := #[.slice (some ⟨wr.heap.size, 0, none⟩) s s]) (t := 24) (fr := (0, 0)) (heap_alloc_new w4 _)) (by simp [Value.oneCell']) (by omega) (by unfold maxLen; omega) (by omega) (by simp; omega) (w4.heap.size + 1) (by simp) ?_; intro gg cap w5 hown1 hgrow hat hlt3)
        have P5 : Hid (Stack w5 w.heap.size (.slice (some ⟨gg, 0, none⟩) (n + 1) cap) (n + 1) (vals ++ [.slice (some ⟨wr.heap.size, 0, none⟩) s s]) (famTo s v d (k + 1))) := Lib.hid (by
          rw [HF.out]
          exact S3.out.push I3.out (Nat.le_refl _) (by omega) (fun _ ad e e2 => by injection e with e; subst e; have := (HV.out _ e2).2; simp at this) hown1 hgrow (hat.imp id (fun e => by rw [e]; omega)))
        have H5 := Lib.hid (hhi.out.push (u := .slice (some ⟨wr.heap.size, 0, none⟩) s s) (fun ad q c e _ => by obtain ⟨e1, _, _⟩ := Value.slice.inj e; injection e1 with e1; subst e1; show w.heap.size ≤ wr.heap.size; omega))
        have B5 := Lib.hid ((B3.out.alloc B3.out.size (.cells #[.slice (some ⟨wr.heap.size, 0, none⟩) s s] 24)).grown hgrow (by simp; omega) (fun q e => (HV.out q e).1))
        clear hown1 hgrow hat hlt3 S3 B3 I3 HV
        go_wp2
        go_roundw
        case rel => exact ⟨k + 1, n + 1, _, _, rfl, by go_num, by omega, by rw [HF.out, List.length_append, HN.out]; rfl, by omega, H5, P5, B5⟩
        case measure => simp [intOf]; omega
    · have HE : Hid (k = (powC v s).toNat) := Lib.hid (by omega)
      go_wp2_with (go_at_call 65; refine (l07Power_any _ _ _ v0 v1 (by omega) s1).mono ?_; rintro e w' ⟨rfl, rfl⟩)
      go_ret
      exact ⟨_, n, vals, rfl, by rw [← HE.out]; exact hst.out, hhi.out, by omega, hb.out⟩


theorem fam_pos' {s : Nat} {v d : Int} {n : Nat} (h : 1 ≤ n) : 0 < (famTo s v d n).length := by
  obtain ⟨r, hr⟩ := fam_pre s v d 1 n h
  have : famTo s v d 1 = [codeN s v 0] := fam_yes (k := 0) rfl
  rw [hr, this]
  simp
theorem take_min' {α : Type} (l : List α) (m : Nat) : l.take (min m l.length) = l.take m := by
  by_cases h : m ≤ l.length
  · rw [Nat.min_eq_left h]
  · rw [Nat.min_eq_right (by omega), List.take_length, List.take_of_length_le (by omega)]

theorem specFamiliesOfW_any (s v d m : Int) (w : World) :
    Calls Try.prog 19 #[.int .i64 s, .int .i64 v, .int .i64 d, .int .i64 m] w
      fun e w' => ∃ u n vals, e = .returned (.tuple #[u, .int .i64 (foE s v d m)]) ∧ Stack w' w.heap.size u n vals (foL s v d m) ∧ Highs w.heap.size vals ∧ Below w.heap.size w w' := by
  rcases hs : sdB s v d with _ | _
  · rw [(fo_no (m := m) (by simp [foOk, hs])).1, (fo_no (m := m) (by simp [foOk, hs])).2]
    go_enter Try.func19, Try.ntmps19
    go_wp2_with (go_at_call 57; refine (l07Distance_any _ _ _ _).mono ?_; rw [hs]; rintro e w' ⟨rfl, rfl⟩)
    go_ret2
    exact ⟨.slice none 0 0, 0, [], rfl, Stack.zero, fun u hu => by simp at hu, Below.refl _ _⟩
  rcases hm : inB m 0 60 with _ | _
  · rw [(fo_no (m := m) (by simp [foOk, hm])).1, (fo_no (m := m) (by simp [foOk, hm])).2]
    go_enter Try.func19, Try.ntmps19
    go_wp2_with (first | (go_at_call 57; refine (l07Distance_any _ _ _ _).mono ?_; rw [hs]; rintro e w' ⟨rfl, rfl⟩) | (go_at_call 63; refine (l01In_any _ _ _ _).mono ?_; rw [hm]; rintro e w' ⟨rfl, rfl⟩))
    go_ret2
    exact ⟨.slice none 0 0, 0, [], rfl, Stack.zero, fun u hu => by simp at hu, Below.refl _ _⟩
  · rw [(fo_yes (m := m) (by simp [foOk, hm, hs])).1, (fo_yes (m := m) (by simp [foOk, hm, hs])).2]
    obtain ⟨s0, s1, v0, v1⟩ := sys_true (sd_true hs).1
    obtain ⟨S, rfl⟩ : ∃ S : Nat, s = (S : Int) := ⟨s.toNat, by omega⟩
    obtain ⟨m0, m1⟩ := inB_true.1 hm
    obtain ⟨M, rfl⟩ : ∃ M : Nat, m = (M : Int) := ⟨m.toNat, by omega⟩
    have HP := Lib.hid (pow_small (k := S) v0 v1 (by omega))
    have HA : Hid (famAll (S : Int) v d = famTo S v d (powC v S).toNat) := Lib.hid (by unfold famAll; rw [Int.toNat_natCast])
    rw [HA.out, Int.toNat_natCast]
    go_enter Try.func19, Try.ntmps19
    go_wp2_with (first | (go_at_call 57; refine (l07Distance_any _ _ _ _).mono ?_; rw [hs]; rintro e w' ⟨rfl, rfl⟩) | (go_at_call 63; refine (l01In_any _ _ _ _).mono ?_; rw [hm]; rintro e w' ⟨rfl, rfl⟩))
    refine (l07FamiliesW_any S v d _ hs).mono ?_
    rintro e w1 ⟨uu, n, vals, rfl, hst, hhi, hn, b1⟩
    obtain ⟨V, c, rfl, hS, hc1, hc2⟩ := hst.sets
    have hpos : 0 < n := by
      rw [← hS.len]
      exact fam_pos' (by have := HP.out; omega)
    obtain ⟨ad, _, _, _, _, rfl, _⟩ := hS.at_ hpos
    obtain ⟨j, hj⟩ : ∃ j : Nat, j = min M n := ⟨_, rfl⟩
    have hmin : min (M : Int) (n : Int) = (j : Int) := by omega
    have hjn : j ≤ n := by omega
    have HT : Hid ((famTo S v d (powC v S).toNat).take j = (famTo S v d (powC v S).toNat).take M) := Lib.hid (by rw [hj, ← hS.len, take_min'])
    have HS := Lib.hid (hst.first hjn hpos)
    have HH := Lib.hid (hhi.take j)
    have j0 : (0 : Int) ≤ (j : Int) := by omega
    have j1 : (j : Int) ≤ (c : Int) := by omega
    clear hS hj hst hhi
    go_wp2
    go_ret2
    exact ⟨_, _, _, rfl, by rw [← HT.out]; exact HS.out, HH.out, b1⟩

end Go.Proofs.Ytpabccgndhmcdaa
