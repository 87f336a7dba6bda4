/- l02Begins of the model: its contract. l02First of the model: its contract. l02First of the model: its walk. l02Next, NextKey and FirstKey of the model. The laws of NextKey and FirstKey. FirstKeys of the model. The law of FirstKeys. -/
import Derived.Test.YtidjnnooeepklaaRow
import Derived.Test.YtidjnnooeepklaaMay
import Derived.Laws.AppendOwnNone
import Derived.Deep.RegionHeld3
namespace Go.Proofs.Ytidjnnooeepklaa
open Go.RowKit

theorem begins_no3 {m : Mk} {xs : List Int} {k n : Nat} (hl : xs.length = n) (hk : k < n) (h : stepAt m.S xs k = false) : beginsB m xs = false := by
  unfold beginsB
  rw [show stepsB m.S xs = false from not_all_range (by rw [hl]; exact hk) h]; rfl
theorem begins_no4 {m : Mk} {xs : List Int} {k n : Nat} (hl : xs.length = n) (hk : k < n) (h : runOk m.M xs k = false) : beginsB m xs = false := by
  unfold beginsB
  rw [show runsB m.M xs = false from not_all_range (by rw [hl]; exact hk) h, Bool.and_false]
theorem begins_yes {m : Mk} {xs : List Int} {k n : Nat} (hl : xs.length = n) (hk : ¬ k < n) (h : ∀ j, j < k → (stepAt m.S xs j && runOk m.M xs j) = true) : beginsB m xs = true := by
  unfold beginsB
  rw [show stepsB m.S xs = true from all_range (k := k) (by rw [hl]; exact hk) (fun j hj => (Bool.and_eq_true_iff.1 (h j hj)).1), show runsB m.M xs = true from all_range (k := k) (by rw [hl]; exact hk) (fun j hj => (Bool.and_eq_true_iff.1 (h j hj)).2)]
  rfl
theorem both_next {m : Mk} {xs : List Int} {k : Nat} (h : ∀ j, j < k → (stepAt m.S xs j && runOk m.M xs j) = true) (h3 : stepAt m.S xs k = true) (h4 : runOk m.M xs k = true) : ∀ j, j < k + 1 → (stepAt m.S xs j && runOk m.M xs j) = true :=
  all_next (p := fun j => stepAt m.S xs j && runOk m.M xs j) h (by simp [h3, h4])

end Go.Proofs.Ytidjnnooeepklaa

namespace Go.Proofs.Ytidjnnooeepklaa
open Go.RowKit

/-- a row of its own that reads as a list -/
def OwnRow (w : World) (n : Nat) (xs : List Int) (e : Ending) (w' : World) : Prop := ∃ v, e = .returned v ∧ w'.ownsRow w.heap.size 2 1 v n (intsV xs) ∧ Below w.heap.size w w'

set_option maxHeartbeats 1000000 in
theorem l01Own_nil (w : World) : Calls Try.prog 109 #[.slice none 0 0] w (OwnRow w 0 []) := by
  obtain ⟨i0, hi, hz0, hz1, hz2⟩ := info_parts Try.info2'
  have HI := Lib.hid (And.intro hi (And.intro hz0 (And.intro hz1 hz2)))
  clear hi hz0 hz1 hz2
  have HO := Lib.hid (rowNil (w := w) (t := 2) (s := 1) (Nat.le_refl w.heap.size))
  go_enter Try.func109, Try.ntmps109
  go_wp2_with (at_builtin; refine wpList_append_own_none _ rfl _ _ 27 rfl w.heap.size 2 i0 1 Try.underlying27 HI.out.1 _ 0 _ rfl HO.out rfl ?_)
  go_ret
  exact ⟨_, rfl, HO.out, (Below.refl _ _).alloc (Nat.le_refl _) _⟩

set_option maxHeartbeats 1000000 in
theorem l01Own_some (ad : Addr) (n c : Nat) (xs : List Int) (w : World) (h : Ints w w.heap.size (some ad) n xs) (hn : n ≤ 1048576) :
    Calls Try.prog 109 #[.slice (some ad) n c] w (OwnRow w n xs) := by
  obtain ⟨i0, hi, hz0, hz1, hz2⟩ := info_parts Try.info2'
  have HI := Lib.hid (And.intro hi (And.intro hz0 (And.intro hz1 hz2)))
  clear hi hz0 hz1 hz2
  have HL := Lib.hid h.len
  have hb0 := (Below.refl w.heap.size w).alloc (Nat.le_refl _) (.cells #[] 2)
  have HN : Hid (∀ j u, (intsV xs)[j]? = some u → (w.alloc (.cells #[] 2)).cell? (ad.add j) = some u) := by
    rcases Nat.eq_zero_or_pos n with h0 | h0
    · refine Lib.hid (fun j u hu => ?_)
      have : xs = [] := List.eq_nil_of_length_eq_zero (by rw [h.len, h0])
      subst this
      simp [intsV] at hu
    · exact Lib.hid (ints_news (h.below hb0) h0)
  have HB := Lib.hid hb0
  clear hb0
  have HO := Lib.hid (rowNil (w := w) (t := 2) (s := 1) (Nat.le_refl w.heap.size))
  go_enter Try.func109, Try.ntmps109
  go_wp2_with (at_builtin; refine wpList_append_own_at _ rfl _ _ 27 rfl w.heap.size 2 i0 _ 1 8 Try.underlying27 HI.out.1 HI.out.2.1 HI.out.2.2.1 HI.out.2.2.2 rfl (by omega) _ 0 _ rfl HO.out ad n c (intsV xs) rfl (by rw [intsV_len, HL.out]; omega) HN.out (intsV_one _) (by unfold maxLen; omega) (by omega) (by simp) ?_; intro v5 w5 hown1 hgrow _ _)
  rw [show 0 + n = n by omega, List.nil_append] at hown1
  have R5 := Lib.hid hown1
  have B5 := Lib.hid (HB.out.grown hgrow (by simp) (fun q e => by have := rowBase HO.out q e; omega))
  clear hown1 hgrow
  go_wp2
  go_ret
  exact ⟨v5, rfl, R5.out, B5.out⟩

theorem l01Own_any (A : Option Addr) (n c : Nat) (xs : List Int) (w : World) (h : Ints w w.heap.size A n xs) (hn : n ≤ 1048576) (hA : A = none → n = 0 ∧ c = 0) :
    Calls Try.prog 109 #[.slice A n c] w (OwnRow w n xs) := by
  rcases A with _ | ad
  · obtain ⟨rfl, rfl⟩ := hA rfl
    have : xs = [] := List.eq_nil_of_length_eq_zero h.len
    subst this
    exact l01Own_nil w
  · exact l01Own_some ad n c xs w h hn

end Go.Proofs.Ytidjnnooeepklaa

namespace Go.Proofs.Ytidjnnooeepklaa
open Go.RowKit

/-- what l02First answers: res are the keys that it looks for the first of -/
def FirstOk (w : World) (lo : Nat) (res : List (List Int)) (e : Ending) (w' : World) : Prop :=
  ∃ A n c ok ys, e = .returned (.tuple #[.slice A n c, .bool ok]) ∧ Own w' lo w'.heap.size A n ys ∧ n ≤ 1048576 ∧ n ≤ c ∧ c ≤ 9223372036854775807 ∧ Below w.heap.size w w' ∧ ((ok = true ∧ res.head? = some ys) ∨ (ok = false ∧ res = []))
theorem Ints.alloc {w : World} {B n : Nat} {A : Option Addr} {xs : List Int} (h : Ints w B A n xs) (hB : B ≤ w.heap.size) (o : Obj) : Ints (w.alloc o) (w.alloc o).heap.size A n xs :=
  (h.below ((Below.refl B w).alloc hB o)).more (by simp; omega)
/-- a block made before a call is still there behind it -/
theorem news_behind {w w2 : World} {d : Int} {t : TypeId} (hb : Below (w.alloc (.cells #[.int .i64 d] t)).drew.heap.size (w.alloc (.cells #[.int .i64 d] t)).drew w2) : ∀ (j : Nat) (u : Value), [Value.int .i64 d][j]? = some u → w2.cell? ((⟨w.heap.size, 0, none⟩ : Addr).add j) = some u := by
  intro j u hu
  have h1 := World.news_of_block (cs := #[.int .i64 d]) (t := t) (fr := (0, 0)) (heap_alloc_new w _) j u hu
  refine (hb.cell ?_).trans h1
  rw [block_of_add]
  show w.heap.size < (w.alloc _).heap.size
  simp

end Go.Proofs.Ytidjnnooeepklaa

namespace Go.Proofs.Ytidjnnooeepklaa
open Go.RowKit

theorem depth_take {m : Mk} {xs : List Int} (h : allIn 0 (m.D - 1) xs = true) (q : Nat) : allIn 0 (m.D - 1) (xs.take q) = true := by
  unfold allIn at *
  rw [List.all_eq_true] at *
  exact fun v hv => h v (List.mem_of_mem_take hv)

end Go.Proofs.Ytidjnnooeepklaa

namespace Go.Proofs.Ytidjnnooeepklaa
open Go.RowKit

end Go.Proofs.Ytidjnnooeepklaa

namespace Go.Proofs.Ytidjnnooeepklaa
open Go.RowKit

/-- what a call answers that gives a list of lists -/
def GivesPile (w : World) (p : Nat) (yss : List (List Int)) (e : Ending) (w' : World) : Prop :=
  ∃ V n c gs, e = .returned (.slice V n c) ∧ Pile w' w.heap.size (.slice V n c) n p gs yss ∧ n ≤ 300 ∧ Below w.heap.size w w'

end Go.Proofs.Ytidjnnooeepklaa

namespace Go.Proofs.Ytidjnnooeepklaa
open Go.RowKit

theorem quiet_add_on {P : Program} {f : FuncId} {args : Array Value} {w : World} {a n : Nat} {v : Value}
    (h : Calls P f args (w.drewN (a + n)) fun e w' => e = .returned v ∧ ∃ m, w' = (w.drewN (a + n)).drewN m) :
    Calls P f args (w.drewN (a + n)) fun e w'' => e = .returned v ∧ ∃ m, w'' = w.drewN (a + m) :=
  h.mono fun _ _ ⟨he, m, hm⟩ => ⟨he, n + m, by rw [hm, World.drewN_drewN, Nat.add_assoc]⟩
def addrOf : Value → Option Addr
  | .slice a _ _ => a
  | _ => none
theorem Pile.at_ {w : World} {lo n p c k : Nat} {V : Option Addr} {gs : List (Addr × Nat)} {yss : List (List Int)} (h : Pile w lo (.slice V n c) n p gs yss) (hk : k < n) :
    ∃ (ad : Addr) (a : Addr × Nat) (ys : List Int), V = some ad ∧ gs[k]? = some a ∧ yss[k]? = some ys ∧ w.cell? (ad.add k) = some (.slice (some a.1) p a.2) ∧ Self w a.1 p ys := by
  obtain ⟨g, cap, e, _, _⟩ := h.row.form (by omega)
  have hV : V = some ⟨g, 0, none⟩ := congrArg addrOf e
  subst hV
  have hg : gs[k]? = some (gs[k]'(by rw [h.glen]; exact hk)) := List.getElem?_eq_getElem _
  have hy : yss[k]? = some (yss[k]'(by rw [h.len]; exact hk)) := List.getElem?_eq_getElem _
  refine ⟨_, _, _, rfl, hg, hy, ?_, (h.inner k _ _ hg hy).1⟩
  exact h.row.cells (g := g) rfl k _ (by unfold slicesV; rw [List.getElem?_map, hg]; rfl)
theorem Pile.drewN {w : World} {lo n p : Nat} {v : Value} {gs : List (Addr × Nat)} {yss : List (List Int)} (h : Pile w lo v n p gs yss) (k : Nat) : Pile (w.drewN k) lo v n p gs yss :=
  h.on (below_drewN (Below.refl _ _) k)

theorem eqInts_quiet (A A' : Option Addr) (n c c' : Nat) (xs : List Int) (w : World) (h : Ints w w.heap.size A n xs) (h' : Ints w w.heap.size A' n xs) (hn : n ≤ 1048576) :
    Calls Try.prog 43 #[.slice A n c, .slice A' n c'] w fun e w' => e = .returned (.bool true) ∧ ∃ q, w' = w.drewN q := by
  go_enter Try.func43, Try.ntmps43
  go_wp2
  go_loopw [5] (fun i wr => ∃ k q : Nat, k ≤ n ∧ i = .int .i64 k ∧ wr = w.drewN q) (fun i _ => n - (intOf i).toNat)
  case atStart => exact ⟨0, 0, Nat.zero_le _, rfl, rfl⟩
  case round =>
    obtain ⟨k, q, hk, rfl, rfl⟩ := hrel
    by_cases hlt : k < n
    · obtain ⟨ad, v, rfl, hab, hv, hc⟩ := h.at_ hlt
      obtain ⟨ad', v', rfl, hab', hv', hc'⟩ := h'.at_ hlt
      obtain rfl : v = v' := by rw [hv] at hv'; injection hv'
      clear hv hv'
      go_wp2
      go_quiet (fail)
      go_wp2
      go_roundw
      case rel => exact ⟨k + 1, _, by omega, by go_num, rfl⟩
      case measure => simp [intOf]; omega
    · go_wp2
      go_ret
      exact ⟨rfl, q, rfl⟩

set_option maxRecDepth 100000 in
theorem eqLists_true (V V' : Option Addr) (n c c' p lo lo' : Nat) (gs gs' : List (Addr × Nat)) (yss : List (List Int)) (w : World) (h : Pile w lo (.slice V n c) n p gs yss) (h' : Pile w lo' (.slice V' n c') n p gs' yss) (hn : n ≤ 1048576) (hp : n = 0 ∨ p ≤ 6) :
    Calls Try.prog 42 #[.slice V n c, .slice V' n c'] w fun e w' => e = .returned (.bool true) ∧ ∃ q, w' = w.drewN q := by
  go_enter Try.func42, Try.ntmps42
  go_wp2
  go_loopw [5] (fun i wr => ∃ k q : Nat, k ≤ n ∧ i = .int .i64 k ∧ wr = w.drewN q) (fun i _ => n - (intOf i).toNat)
  case atStart => exact ⟨0, 0, Nat.zero_le _, rfl, rfl⟩
  case round =>
    obtain ⟨k, q, hk, rfl, rfl⟩ := hrel
    by_cases hlt : k < n
    · obtain ⟨ad, a, ys, rfl, _, hy, hc, hs⟩ := h.at_ hlt
      obtain ⟨ad', a', ys', rfl, _, hy', hc', hs'⟩ := h'.at_ hlt
      obtain rfl : ys = ys' := by rw [hy] at hy'; injection hy'
      have HS := Lib.hid hs
      have HS' := Lib.hid hs'
      have hp6 : p ≤ 6 := by omega
      have i0 : (0 : Int) ≤ (k : Int) := by omega
      have i1 : (k : Int) < (n : Int) := by omega
      clear hy hy' hs hs'
      go_wp2
      go_quiet ((go_at_call 43; exact quiet_add_on (eqInts_quiet _ _ _ _ _ ys _ (ints_drewN (Own.ints HS.out) _) (ints_drewN (Own.ints HS'.out) _) (by omega))))
      go_wp2
      go_roundw
      case rel => exact ⟨k + 1, _, by omega, by go_num, rfl⟩
      case measure => simp [intOf]; omega
    · go_wp2
      go_ret
      exact ⟨rfl, q, rfl⟩

/-- the count behind i marked lists of p numbers -/
def kAt (k : Int) (p i : Nat) : Int := k + ((i * p : Nat) : Int)
theorem kAt_step (k : Int) (p i : Nat) : kAt k p i + (p : Int) = kAt k p (i + 1) := by
  unfold kAt
  rw [Nat.succ_mul]
  omega
theorem kAt_range {k : Int} {p i : Nat} (k0 : 0 ≤ k) (k1 : k ≤ 1) (hi : i ≤ 300) (hp : p ≤ 6) : 0 ≤ kAt k p i ∧ kAt k p i ≤ 2000 := by
  have h : i * p ≤ 300 * 6 := Nat.mul_le_mul hi hp
  unfold kAt
  omega
/-- lists that are marked one after the other -/
def marksL (k : Int) (p n : Nat) : List (List Int) := (List.range n).map (fun j => marks (kAt k p j) p)
/-- .. the first i of them are -/
def Marked (k : Int) (p i : Nat) (zss : List (List Int)) : Prop := ∀ j, j < i → zss[j]? = some (marks (kAt k p j) p)
theorem Marked.all {k : Int} {p n : Nat} {zss : List (List Int)} (h : Marked k p n zss) (hl : zss.length = n) : zss = marksL k p n := by
  refine List.ext_getElem? fun j => ?_
  unfold marksL
  rw [List.getElem?_map]
  rcases Nat.lt_or_ge j n with hlt | hge
  · rw [h j hlt, List.getElem?_range hlt]; rfl
  · rw [List.getElem?_eq_none (by omega), List.getElem?_eq_none (by rw [List.length_range]; omega)]; rfl
theorem marksL_at {k : Int} {p n j : Nat} {ys : List Int} (h : (marksL k p n)[j]? = some ys) : ys = marks (kAt k p j) p := by
  unfold marksL at h
  rw [List.getElem?_map] at h
  rcases hr : (List.range n)[j]? with _ | u
  · rw [hr] at h; cases h
  · rw [hr] at h
    obtain ⟨hl, e⟩ := List.getElem?_eq_some_iff.1 hr
    rw [List.getElem_range] at e
    subst e
    simpa using h.symm
/-- one list of the pile has been written over -/
theorem Pile.write {w w' : World} {lo n p k : Nat} {v : Value} {gs : List (Addr × Nat)} {yss : List (List Int)} {a : Addr × Nat} {zs : List Int} {row : Option Nat} (h : Pile w lo v n p gs yss) (ha : gs[k]? = some a) (hs : Self w' a.1 p zs)
    (hg : w.grownBy w' row) (hr : ∀ g, row = some g → g = a.1.block) : Pile w' lo v n p gs (yss.set k zs) := by
  have hk : k < n := by rw [← h.glen]; exact (List.getElem?_eq_some_iff.1 ha).1
  have hy : yss[k]? = some (yss[k]'(by rw [h.len]; exact hk)) := List.getElem?_eq_getElem _
  obtain ⟨s1, s2, s3, s4⟩ := h.inner k a _ ha hy
  refine ⟨?_, by rw [List.length_set, h.len], ?_, h.apart⟩
  · refine ⟨h.row.1, ?_⟩
    rcases h.row.2 with h0 | ⟨g, cap, cur, e, h1, hh, rest⟩
    · exact .inl h0
    · refine .inr ⟨g, cap, cur, e, h1, (hg.block g (heapLt hh) ?_).trans hh, rest⟩
      intro e'
      have := hr g e'.symm
      rw [e] at s3
      exact s3 (by rw [← this]; rfl)
  · intro j b ys hj hys
    by_cases hjk : j = k
    · subst hjk
      rw [ha] at hj
      injection hj with hj
      subst hj
      rw [List.getElem?_set_self (by rw [h.len]; exact hk)] at hys
      injection hys with hys
      subst hys
      exact ⟨hs, s2, s3, s4⟩
    · rw [List.getElem?_set_ne (Ne.symm hjk)] at hys
      obtain ⟨t1, t2, t3, t4⟩ := h.inner j b ys hj hys
      refine ⟨t1.apart hg (fun e => ?_), t2, t3, t4⟩
      have e1 := hr _ e
      rcases Nat.lt_or_gt_of_ne hjk with hlt | hgt
      · exact h.apart j k b a hlt hj ha e1
      · exact h.apart k j a b hgt ha hj e1.symm

set_option maxRecDepth 100000 in
set_option maxHeartbeats 1000000 in
theorem markLists_any (V : Option Addr) (n c p lo : Nat) (gs : List (Addr × Nat)) (yss : List (List Int)) (k : Int) (w : World) (h : Pile w lo (.slice V n c) n p gs yss) (hlo : lo ≤ w.heap.size) (hn : n ≤ 300) (hp : n = 0 ∨ p ≤ 6) (k0 : 0 ≤ k) (k1 : k ≤ 1) :
    Calls Try.prog 44 #[.slice V n c, .int .i64 k] w fun e w' => e = .returned (.int .i64 (kAt k p n)) ∧ Pile w' lo (.slice V n c) n p gs (marksL k p n) ∧ Below lo w w' := by
  have HP := Lib.hid h
  clear h
  have HK : Hid (k = kAt k p 0) := Lib.hid (by unfold kAt; simp)
  go_enter Try.func44, Try.ntmps44
  go_wp2
  go_loopw [1, 5] (fun x y wr => ∃ (i : Nat) (zss : List (List Int)), i ≤ n ∧ y = .int .i64 i ∧ x = .int .i64 (kAt k p i) ∧ Pile wr lo (.slice V n c) n p gs zss ∧ Hid (Marked k p i zss) ∧ Below lo w wr) (fun _ y _ => n - (intOf y).toNat)
  case atStart => exact ⟨0, yss, Nat.zero_le _, rfl, by rw [← HK.out], HP.out, Lib.hid (fun j hj => absurd hj (by omega)), Below.refl _ _⟩
  case round =>
    obtain ⟨i, zss, hi, rfl, rfl, hpile, hmk, hb⟩ := hrel
    have hsz := hb.size
    by_cases hlt : i < n
    · obtain ⟨ad, a, ys, rfl, ha, hy, hc, hs⟩ := hpile.at_ hlt
      have hp6 : p ≤ 6 := by omega
      obtain ⟨r0, r1⟩ := kAt_range k0 k1 (show i ≤ 300 by omega) hp6
      obtain ⟨r2, r3⟩ := kAt_range k0 k1 (show i + 1 ≤ 300 by omega) hp6
      have hblo := (hpile.inner i a ys ha hy).2.1
      have HS := Lib.hid hs
      have HPI := Lib.hid hpile
      have HA := Lib.hid ha
      have HB := Lib.hid hb
      have HST := Lib.hid (kAt_step k p i)
      clear hs hpile ha hy hb
      go_wp2_with fail
      refine (markInts_any _ _ _ _ (kAt k p i) _ _ _ HS.out (by omega) r0 (by omega)).mono ?_
      rintro e w2 ⟨rfl, ho, row, hgr, hrow⟩
      have P2 := Lib.hid (HPI.out.write HA.out ho hgr (fun g e => by have := hrow g e; omega))
      have B2 := Lib.hid (HB.out.grown hgr (by omega) (fun g e => by have := (hrow g e).1; omega))
      have M2 : Hid (Marked k p (i + 1) (zss.set i (marks (kAt k p i) p))) := Lib.hid (fun j hj => by
        by_cases e : j = i
        · subst e
          rw [List.getElem?_set_self (by rw [HPI.out.len]; exact hlt)]
        · rw [List.getElem?_set_ne (Ne.symm e)]
          exact hmk.out j (by omega))
      rw [HST.out]
      clear ho hgr hrow hc
      go_wp2
      go_roundw
      case rel => exact ⟨i + 1, _, by omega, by go_num, rfl, P2.out, M2, B2.out⟩
      case measure => simp [intOf]; omega
    · obtain rfl : i = n := by omega
      have HE := Lib.hid (hmk.out.all hpile.len)
      go_wp2
      go_ret
      refine ⟨rfl, ?_, hb⟩
      rw [← HE.out]
      exact hpile

set_option maxRecDepth 100000 in
theorem heldLists_any (V : Option Addr) (n c p lo : Nat) (gs : List (Addr × Nat)) (k : Int) (w : World) (h : Pile w lo (.slice V n c) n p gs (marksL k p n)) (hn : n ≤ 300) (hp : n = 0 ∨ p ≤ 6) (k0 : 0 ≤ k) (k1 : k ≤ 1) :
    Calls Try.prog 52 #[.slice V n c, .int .i64 k] w fun e w' => e = .returned (.int .i64 (kAt k p n)) ∧ w = w' := by
  have HK : Hid (k = kAt k p 0) := Lib.hid (by unfold kAt; simp)
  have HP := Lib.hid h
  clear h
  go_enter Try.func52, Try.ntmps52
  go_wp2
  go_loop [1, 5] (fun x y => ∃ i : Nat, i ≤ n ∧ y = .int .i64 i ∧ x = .int .i64 (kAt k p i)) (fun _ y => n - (intOf y).toNat)
  case atStart => exact ⟨0, Nat.zero_le _, rfl, by rw [← HK.out]⟩
  case round =>
    obtain ⟨i, hi, rfl, rfl⟩ := hrel
    by_cases hlt : i < n
    · obtain ⟨ad, a, ys, rfl, ha, hy, hc, hs⟩ := HP.out.at_ hlt
      have hp6 : p ≤ 6 := by omega
      obtain ⟨r0, r1⟩ := kAt_range k0 k1 (show i ≤ 300 by omega) hp6
      obtain ⟨r2, r3⟩ := kAt_range k0 k1 (show i + 1 ≤ 300 by omega) hp6
      have e := marksL_at hy
      subst e
      have HS := Lib.hid hs
      have HST := Lib.hid (kAt_step k p i)
      have hneg : ¬ kAt k p (i + 1) < 0 := by omega
      clear hs ha hy
      go_wp2_with fail
      refine (heldInts_any _ _ _ (kAt k p i) _ (Own.ints HS.out) (by omega) r0 (by omega)).mono ?_
      rintro e w' ⟨rfl, rfl⟩
      rw [HST.out]
      go_wp2
      go_round
      case rel => exact ⟨i + 1, by omega, by go_num, rfl⟩
      case measure => simp [intOf]; omega
    · obtain rfl : i = n := by omega
      go_wp2
      go_ret
      exact ⟨rfl, rfl⟩

theorem fk_len {m : Mk} {n : Int} : (fkL m n).length = 0 ∨ m.C.toNat ≤ 6 := by
  unfold fkL
  rcases hm : m.ok with _ | _
  · simp
  · obtain ⟨m1, m2, _⟩ := Mk.ok_true hm
    right; omega

end Go.Proofs.Ytidjnnooeepklaa
