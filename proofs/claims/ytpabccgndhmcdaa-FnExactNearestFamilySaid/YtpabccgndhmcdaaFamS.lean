/- The model's families: the function that lists them, CountFamilies and FamiliesOf: contracts. -/
import Derived.Test.YtpabccgndhmcdaaFamL
import Derived.Test.YtpabccgndhmcdaaBuilt
import Derived.Lib.MinMax
namespace Go.Proofs.Ytpabccgndhmcdaa
open Go.RowKit

set_option maxRecDepth 100000 in
set_option maxHeartbeats 4000000 in
theorem l07Families_any (s : Nat) (v d : Int) (w : World) (hs : sdB (s : Int) v d = true) :
    Calls Try.prog 59 #[.int .i64 (s : Int), .int .i64 v, .int .i64 d] w
      fun e w' => ∃ V n c, e = .returned (.slice V n c) ∧ Sets w' w'.heap.size V n (famTo s v d (powC v s).toNat) ∧ n ≤ c ∧ c ≤ 9223372036854775807 ∧ n ≤ 3125 ∧ Below w.heap.size w w' := by
  obtain ⟨hy, d0, d1⟩ := sd_true hs
  obtain ⟨s0, s1, v0, v1⟩ := sys_true hy
  have HP := Lib.hid (pow_small (k := s) v0 v1 (by omega))
  obtain ⟨jj, hj0, hy0, hy1, hy2⟩ := info_parts Try.info24'
  have HG := Lib.hid (And.intro hj0 (And.intro hy0 (And.intro hy1 hy2)))
  have R0 := Lib.hid (Stack.none_ (rowNil (w := w) (t := 24) (s := 1) (base := w.heap.size) (Nat.le_refl _)))
  have b0 := Lib.hid (below_box w (.cells #[] 24))
  clear hj0 hy0 hy1 hy2 hs hy
  go_enter Try.func59, Try.ntmps59
  go_wp2
  go_loopw [7, 8] (fun y x wr => ∃ (k n : Nat) (vals : List Value) (z : Value), z = y ∧ x = .int .i64 k ∧ (k : Int) ≤ powC v s ∧ (famTo s v d k).length = n ∧ n ≤ k ∧ Hid (Stack wr w.heap.size z n vals (famTo s v d k)) ∧ Hid (Below w.heap.size w wr)) (fun _ x _ => (5000 - intOf x).toNat)
  case atStart => exact ⟨0, 0, [], _, rfl, rfl, by have := HP.out; omega, rfl, Nat.le_refl _, R0, b0⟩
  case round =>
    obtain ⟨k, n, vals, z, rfl, rfl, hk, hn, hnk, hst, hb⟩ := hrel
    clear R0 b0
    have HN := Lib.hid hn
    have hk3 : k ≤ 3125 := by have := HP.out; omega
    obtain ⟨V, c, rfl, hs1, hc1, hc2⟩ := hst.out.sets
    have HS1 := Lib.hid hs1
    clear hs1 hn
    have hpw : (s : Int).toNat = s := by simp
    by_cases hlt : (k : Int) < powC v s
    · go_wp2_with (go_at_call 65; refine (l07Power_any _ _ _ v0 v1 (by omega) s1).mono ?_; rintro e w' ⟨rfl, rfl⟩)
      refine (l07At_any s v (k : Int) _ (by omega) v0 v1 (by omega) (by omega)).mono ?_
      rintro e w2 ⟨rfl, r2, b2⟩
      have I2 := Lib.hid (Ints.of_row r2 (codeN_len s v k))
      have G2 := Lib.hid r2
      have B2 := Lib.hid (below_trans' hb.out b2)
      have S2 := Lib.hid (hst.out.on b2)
      have T2 := Lib.hid (HS1.out.on b2)
      have hsz := hb.out.size
      have hsz2 := b2.size
      have hg2 := r2.lt
      clear r2 b2
      rcases hf : farB d (famTo s v d k) (codeN s v k) with _ | _
      · have HF := Lib.hid (fam_not hf)
        go_wp2_with fail
        refine (l07Apart_at _ d _ n c _ _ s s _ _ hf T2.out (by omega) I2.out (by omega) (fun j ys hj => fam_len hj)).mono ?_
        rintro e w3 ⟨rfl, q, rfl⟩
        have S3 := Lib.hid (S2.out.drewN q)
        have B3 := Lib.hid (below_drewN B2.out q)
        clear T2 S2 B2 I2 G2 hg2
        go_wp2
        go_roundw
        case rel => exact ⟨k + 1, n, vals, _, rfl, by go_num, by omega, by rw [HF.out]; exact HN.out, by omega, by rw [HF.out]; exact S3, B3⟩
        case measure => simp [intOf]; omega
      · have HF := Lib.hid (fam_yes hf)
        go_wp2_with fail
        refine (l07Apart_at _ d _ n c _ _ s s _ _ hf T2.out (by omega) I2.out (by omega) (fun j ys hj => fam_len hj)).mono ?_
        rintro e w3 ⟨rfl, q, rfl⟩
        have S3 := Lib.hid (S2.out.drewN q)
        have B3 := Lib.hid (below_drewN B2.out q)
        have I3 : Hid (Ints (w2.drewN q) (w2.drewN q).heap.size (some ⟨wr.heap.size, 0, none⟩) s (codeN s v k)) := Lib.hid (ints_drewN I2.out q)
        have hz3 : wr.heap.size < (w2.drewN q).heap.size := hg2
        have HV : Hid (∀ g, (Value.slice V n c).ownBlock = some g → w.heap.size ≤ g ∧ g < wr.heap.size) := Lib.hid (fun g e => ⟨rowBase hst.out.row g e, by
          rcases hst.out.row.2 with ⟨e1, _⟩ | ⟨g', cap', cur, e1, _, hg', _⟩
          · rw [e1] at e; cases e
          · have h1 := heapLt hg'
            rw [e1] at e
            have : g' = g := by simpa [Value.ownBlock] using e
            omega⟩)
        clear T2 S2 B2 I2 G2 hg2
        generalize w2.drewN q = w4 at S3 B3 I3 hz3 ⊢
        go_wp2_with (at_builtin; refine wpList_append_lies _ rfl _ _ 31 rfl w.heap.size 24 jj _ 1 24 Try.underlying31 HG.out.1 HG.out.2.1 HG.out.2.2.1 HG.out.2.2.2 rfl (by omega) _ n _ rfl (S3.out.row.alloc _) ⟨w4.heap.size, 0, none⟩ 1 1 [.slice (some ⟨wr.heap.size, 0, none⟩) s s] rfl rfl (World.news_of_block (cs := #[.slice (some ⟨wr.heap.size, 0, none⟩) s s]) (t := 24) (fr := (0, 0)) (heap_alloc_new w4 _)) (by simp [Value.oneCell']) (by omega) (by unfold maxLen; omega) (by omega) (by simp; omega) (w4.heap.size + 1) (by simp) ?_; intro gg cap w5 hown1 hgrow hat hlt3)
        have P5 : Hid (Stack w5 w.heap.size (.slice (some ⟨gg, 0, none⟩) (n + 1) cap) (n + 1) (vals ++ [.slice (some ⟨wr.heap.size, 0, none⟩) s s]) (famTo s v d (k + 1))) := Lib.hid (by
          rw [HF.out]
          exact S3.out.push I3.out (Nat.le_refl _) (by omega) (fun _ ad e e2 => by injection e with e; subst e; have := (HV.out _ e2).2; simp at this) hown1 hgrow (hat.imp id (fun e => by rw [e]; omega)))
        have B5 := Lib.hid ((B3.out.alloc B3.out.size (.cells #[.slice (some ⟨wr.heap.size, 0, none⟩) s s] 24)).grown hgrow (by simp; omega) (fun q e => (HV.out q e).1))
        clear hown1 hgrow hat hlt3 S3 B3 I3 HV
        go_wp2
        go_roundw
        case rel => exact ⟨k + 1, n + 1, _, _, rfl, by go_num, by omega, by rw [HF.out, List.length_append, HN.out]; rfl, by omega, P5, B5⟩
        case measure => simp [intOf]; omega
    · have HE : Hid (k = (powC v s).toNat) := Lib.hid (by omega)
      go_wp2_with (go_at_call 65; refine (l07Power_any _ _ _ v0 v1 (by omega) s1).mono ?_; rintro e w' ⟨rfl, rfl⟩)
      go_ret
      exact ⟨V, n, c, rfl, by rw [← HE.out]; exact HS1.out, hc1, hc2, by omega, hb.out⟩

end Go.Proofs.Ytpabccgndhmcdaa
