/- The laws' functions on lists of lists and on locks. -/
import Derived.Test.YtpabccgndhmcdaaSets
namespace Go.Proofs.Ytpabccgndhmcdaa
open Go.RowKit

/-- what is left behind a measured list of lists: -1, or so much that all of it fits -/
def Fits (left : Int) (n : Nat) (yss : List (List Int)) (r : Int) : Prop := r = -1 ∨ (r = left - n - sizeL yss ∧ 0 ≤ r)

theorem szInts_any (A : Option Addr) (n c : Nat) (left : Int) (w : World) (l0 : 0 ≤ left) (l1 : left ≤ 1048576) (hn : n ≤ 9223372036854775807) :
    Calls Try.prog 70 #[.slice A n c, .int .i64 left] w fun e w' => e = .returned (.int .i64 (if left < n then -1 else left - n)) ∧ w = w' := by
  by_cases h : left < n
  · go_enter Try.func70, Try.ntmps70
    go_wp2
    go_ret
    exact ⟨rfl, rfl⟩
  · go_enter Try.func70, Try.ntmps70
    go_wp2
    go_ret
    exact ⟨rfl, rfl⟩

set_option maxHeartbeats 1000000 in
theorem szLists_any (V : Option Addr) (n c : Nat) (yss : List (List Int)) (left : Int) (w : World) (h : Sets w w.heap.size V n yss) (l0 : 0 ≤ left) (l1 : left ≤ 1048576) (hn : n ≤ 9223372036854775807) :
    Calls Try.prog 45 #[.slice V n c, .int .i64 left] w fun e w' => (∃ r, e = .returned (.int .i64 r) ∧ Fits left n yss r) ∧ w = w' := by
  by_cases h0 : left < n
  · go_enter Try.func45, Try.ntmps45
    go_wp2
    go_ret
    exact ⟨⟨_, rfl, .inl rfl⟩, rfl⟩
  have HS := Lib.hid h
  have HF : Hid (left - n = left - n - sizeAt yss 0) := Lib.hid (by simp [sizeAt])
  go_enter Try.func45, Try.ntmps45
  go_wp2
  go_loop [1, 5] (fun v i => ∃ (j : Nat) (r : Int), j ≤ n ∧ i = .int .i64 j ∧ v = .int .i64 r ∧ 0 ≤ r ∧ r ≤ 1048576 ∧ Hid (r = left - n - sizeAt yss j)) (fun _ i => n - (intOf i).toNat)
  case atStart => exact ⟨0, left - n, Nat.zero_le _, rfl, by go_num, by omega, by omega, HF⟩
  case round =>
    obtain ⟨j, r, hj, rfl, rfl, r0, r1, hr⟩ := hrel
    by_cases hlt : j < n
    · obtain ⟨ad, ys, A, q, cc, rfl, hab, hy, hc, hi, hq, hqm⟩ := HS.out.at_ hlt
      have HST := Lib.hid (sizeAt_step hy)
      have HYL := Lib.hid hi.len
      have hqm' : q ≤ 9223372036854775807 := by omega
      clear hy hi
      by_cases hq2 : r < q
      · have HE : Hid ((if r < (q : Int) then -1 else r - q) = -1) := Lib.hid (if_pos hq2)
        go_wp2_with fail
        refine (szInts_any _ _ _ r _ r0 r1 hqm').mono ?_
        rw [HE.out]
        rintro e w' ⟨rfl, rfl⟩
        go_wp2
        go_ret
        exact ⟨⟨_, rfl, .inl rfl⟩, rfl⟩
      · have HE : Hid ((if r < (q : Int) then -1 else r - q) = r - q) := Lib.hid (if_neg hq2)
        have hr0 : 0 ≤ r - q := by omega
        have hr1 : r - q ≤ 1048576 := by omega
        have HR : Hid (r - q = left - n - sizeAt yss (j + 1)) := Lib.hid (by have := hr.out; have := HST.out; have := HYL.out; omega)
        go_wp2_with fail
        refine (szInts_any _ _ _ r _ r0 r1 hqm').mono ?_
        rw [HE.out]
        rintro e w' ⟨rfl, rfl⟩
        generalize r - (q : Int) = r' at *
        clear hr HE hc
        go_wp2
        go_round
        case rel => exact ⟨j + 1, r', by omega, by go_num, rfl, hr0, hr1, HR⟩
        case measure => simp [intOf]; omega
    · obtain rfl : j = n := by omega
      have HE : Hid (Fits left j yss r) := Lib.hid (.inr ⟨by have := hr.out; unfold sizeL; rw [HS.out.len]; exact this, r0⟩)
      go_wp2
      go_ret
      exact ⟨⟨_, rfl, HE.out⟩, rfl⟩

theorem fits_at {yss : List (List Int)} {n k : Nat} {ys : List Int} (h : n + sizeL yss ≤ 1048576) (hy : yss[k]? = some ys) : ys.length ≤ 1048576 := by have := size_one hy; omega

/-- the outer cells of the copy that 'toInt64SS' makes, after k rounds -/
def outerV (gs : List (Option Addr × Nat × Nat)) (j : Nat) : Value :=
  match gs[j]? with
  | some a => .slice a.1 a.2.1 a.2.2
  | none => .slice none 0 0
theorem outer_push {gs : List (Option Addr × Nat × Nat)} {k : Nat} {a : Option Addr × Nat × Nat} (h : gs.length = k) (j : Nat) : (if j = k then Value.slice a.1 a.2.1 a.2.2 else outerV gs j) = outerV (gs ++ [a]) j := by
  unfold outerV
  by_cases e : j = k
  · subst e
    rw [if_pos rfl, List.getElem?_append_right (by omega), h, Nat.sub_self]; rfl
  · rw [if_neg e]
    rcases Nat.lt_or_ge j k with h1 | h1
    · rw [List.getElem?_append_left (by omega)]
    · rw [List.getElem?_eq_none (by omega), List.getElem?_eq_none (by rw [List.length_append]; simp; omega)]
/-- the first k lists of a row that is being made, in block g -/
structure Made (w : World) (lo g n k : Nat) (gs : List (Option Addr × Nat × Nat)) (yss : List (List Int)) : Prop where
  row : w.rowIs g 24 n (outerV gs)
  glen : gs.length = k
  low : lo ≤ g
  inner : ∀ (j : Nat) (a : Option Addr × Nat × Nat) (ys : List Int), gs[j]? = some a → yss[j]? = some ys → ys.length = a.2.1 ∧ a.2.1 ≤ a.2.2 ∧ a.2.2 ≤ 9223372036854775807 ∧
    (0 < a.2.1 → ∃ ad, a.1 = some ad ∧ Self w ad a.2.1 ys ∧ lo ≤ ad.block ∧ g ≠ ad.block)
  apart : ∀ (i j : Nat) (a b : Option Addr × Nat × Nat) (ad bd : Addr), i < j → gs[i]? = some a → gs[j]? = some b → 0 < a.2.1 → 0 < b.2.1 → a.1 = some ad → b.1 = some bd → ad.block ≠ bd.block
theorem Made.rag {w : World} {lo g n : Nat} {gs : List (Option Addr × Nat × Nat)} {yss : List (List Int)} (h : Made w lo g n n gs yss) (hl : yss.length = n) : Rag w lo (some ⟨g, 0, none⟩) n gs yss :=
  ⟨hl, h.glen, Nat.le_of_lt (Nat.lt_of_le_of_lt h.low h.row.lt), fun _ => ⟨_, rfl, h.low, h.row.lt, fun j a hj => by
    have hjn : j < n := by rw [← h.glen]; exact (List.getElem?_eq_some_iff.1 hj).1
    have e : (⟨g, 0, none⟩ : Addr).add j = ⟨g, j, none⟩ := by
      unfold Addr.add
      split
      · next h0 => subst h0; rfl
      · simp
    rw [e, h.row.cell hjn]
    unfold outerV
    rw [hj]⟩,
   fun j a ys hj hy => by
    obtain ⟨i1, i2, i3, i4⟩ := h.inner j a ys hj hy
    exact ⟨i1, i2, i3, fun hp => by
      obtain ⟨ad, e, hs, h1, h2⟩ := i4 hp
      exact ⟨ad, e, hs, h1, fun vd hv => by injection hv with hv; subst hv; exact h2⟩⟩, h.apart⟩
theorem Made.start {w : World} {lo n : Nat} {yss : List (List Int)} (h : lo ≤ w.heap.size) : Made (w.alloc (.cells (madeCells #[.slice none 0 0] n) 24)) lo w.heap.size n 0 [] yss :=
  ⟨(World.rowIs_made w (.slice none 0 0) n 24).congr (fun i _ => by simp [outerV]), rfl, h, fun j a ys hj => by simp at hj, fun i j a b ad bd _ hi => by simp at hi⟩
theorem Made.on {w w' : World} {lo g n k : Nat} {gs : List (Option Addr × Nat × Nat)} {yss : List (List Int)} (h : Made w lo g n k gs yss) (hb : Below w.heap.size w w') : Made w' lo g n k gs yss :=
  ⟨h.row.of_block (hb.block g h.row.lt), h.glen, h.low, fun j a ys hj hy => by
    obtain ⟨i1, i2, i3, i4⟩ := h.inner j a ys hj hy
    exact ⟨i1, i2, i3, fun hp => by
      obtain ⟨ad, e, hs, h1, h2⟩ := i4 hp
      exact ⟨ad, e, hs.on hb, h1, h2⟩⟩, h.apart⟩
/-- one list more, in a block that is new since W -/
theorem Made.push {W w : World} {lo g n k : Nat} {gs : List (Option Addr × Nat × Nat)} {yss : List (List Int)} {a : Option Addr × Nat × Nat} {ys : List Int} (h : Made W lo g n k gs yss) (hb : Below W.heap.size W w) (hy : yss[k]? = some ys)
    (h1 : ys.length = a.2.1) (h2 : a.2.1 ≤ a.2.2) (h3 : a.2.2 ≤ 9223372036854775807) (h4 : 0 < a.2.1 → ∃ ad, a.1 = some ad ∧ Self w ad a.2.1 ys ∧ W.heap.size ≤ ad.block) :
    Made (w.setCell ⟨g, k, none⟩ (.slice a.1 a.2.1 a.2.2)) lo g n (k + 1) (gs ++ [a]) yss := by
  have hw := h.on hb
  have hgl := h.row.lt
  have keep : ∀ (ad : Addr) (p : Nat) (zs : List Int), Self w ad p zs → g ≠ ad.block → Self (w.setCell ⟨g, k, none⟩ (.slice a.1 a.2.1 a.2.2)) ad p zs := by
    intro ad p zs hs hne
    refine hs.apart (row := some g) (grown_set (p := ⟨g, k, none⟩) (World.grownBy.refl w (some g)) rfl _) (by intro e; injection e with e; exact hne e)
  refine ⟨(hw.row.set k _).congr (fun j _ => outer_push h.glen j), by rw [List.length_append, h.glen]; rfl, h.low, ?_, ?_⟩
  · intro j b zs hj hz
    rcases Nat.lt_or_ge j k with hlt | hge
    · rw [List.getElem?_append_left (by rw [h.glen]; exact hlt)] at hj
      obtain ⟨i1, i2, i3, i4⟩ := hw.inner j b zs hj hz
      exact ⟨i1, i2, i3, fun hp => by
        obtain ⟨ad, e, hs, q1, q2⟩ := i4 hp
        exact ⟨ad, e, keep ad _ _ hs q2, q1, q2⟩⟩
    · have hjk : j = k := by
        have := (List.getElem?_eq_some_iff.1 hj).1
        rw [List.length_append, h.glen] at this
        simp at this
        omega
      subst hjk
      rw [List.getElem?_append_right (by rw [h.glen]; exact Nat.le_refl _), h.glen, Nat.sub_self] at hj
      simp at hj
      subst hj
      rw [hy] at hz
      injection hz with hz
      subst hz
      refine ⟨h1, h2, h3, fun hp => ?_⟩
      obtain ⟨ad, e, hs, hge'⟩ := h4 hp
      exact ⟨ad, e, keep ad _ _ hs (by omega), by have := h.low; omega, by omega⟩
  · intro i j b b' bd bd' hij hi hj hpb hpb' eb eb'
    have hi' : i < k := by
      have := (List.getElem?_eq_some_iff.1 hj).1
      rw [List.length_append, h.glen] at this
      simp at this
      omega
    rw [List.getElem?_append_left (by rw [h.glen]; exact hi')] at hi
    rcases Nat.lt_or_ge j k with hlt | hge
    · rw [List.getElem?_append_left (by rw [h.glen]; exact hlt)] at hj
      exact h.apart i j b b' bd bd' hij hi hj hpb hpb' eb eb'
    · have hjk : j = k := by
        have := (List.getElem?_eq_some_iff.1 hj).1
        rw [List.length_append, h.glen] at this
        simp at this
        omega
      subst hjk
      rw [List.getElem?_append_right (by rw [h.glen]; exact Nat.le_refl _), h.glen, Nat.sub_self] at hj
      simp at hj
      subst hj
      obtain ⟨ad, e, hs, hge'⟩ := h4 hpb'
      rw [e] at eb'
      injection eb' with eb'
      subst eb'
      have hyi : yss[i]? = some (yss[i]'(by have := (List.getElem?_eq_some_iff.1 hy).1; omega)) := List.getElem?_eq_getElem _
      obtain ⟨_, _, _, i4⟩ := h.inner i b _ hi hyi
      obtain ⟨ad2, e2, hs2, _⟩ := i4 hpb
      rw [eb] at e2
      injection e2 with e2
      subst e2
      have := hs2.lt
      omega

set_option maxHeartbeats 1000000 in
theorem toLists_any (V : Option Addr) (n c : Nat) (yss : List (List Int)) (w : World) (h : Sets w w.heap.size V n yss) (hn : n + sizeL yss ≤ 1048576) :
    Calls Try.prog 46 #[.slice V n c] w (GivesRag w yss) := by
  have HS := Lib.hid h
  have HN := Lib.hid hn
  have hn1 : n ≤ 1048576 := by omega
  have hmk := run_make_row' (P := Try.prog) 31 24 (.slice none 0 0) 24 Try.underlying31 Try.info24' rfl .i64 .i64 n (by omega) (by omega)
  clear h hn
  go_enter Try.func46, Try.ntmps46
  go_wp2
  clear hmk
  go_loopw [4] (fun i wr => ∃ (k : Nat) (gs : List (Option Addr × Nat × Nat)), k ≤ n ∧ i = .int .i64 k ∧ Hid (Made wr w.heap.size w.heap.size n k gs yss) ∧ Below w.heap.size w wr) (fun i _ => n - (intOf i).toNat)
  case atStart => exact ⟨0, [], Nat.zero_le _, rfl, Lib.hid (Made.start (Nat.le_refl _)), (Below.refl _ _).alloc (Nat.le_refl _) _⟩
  case round =>
    obtain ⟨k, gs, hk, rfl, hmade, hb⟩ := hrel
    by_cases hlt : k < n
    · obtain ⟨ad, ys, A, q, cc, rfl, hab, hy, hc, hi, hq, hqm⟩ := (HS.out.on hb).at_ hlt
      have hq1 : q ≤ 1048576 := by have := fits_at HN.out hy; have := hi.len; omega
      have HY := Lib.hid hy
      have HL := Lib.hid hi.len
      clear hy
      go_wp2_with fail
      refine (toInt64S_any _ _ _ ys _ hi hq1).mono ?_
      rintro e w2 ⟨g2, rfl, hg2, r2, b2⟩
      have hfz := (hmade.out.on b2).row.frozen k
      have hst := (hmade.out.on b2).row.cell hlt
      have O2 := Own.of_row (lo := wr.heap.size) r2 HL.out hg2
      have M2 := Lib.hid (hmade.out.push (a := (some ⟨g2, 0, none⟩, q, q)) b2 HY.out HL.out (Nat.le_refl _) (by simp; omega) (fun hp => ⟨⟨g2, 0, none⟩, rfl, (O2.self hp).1, hg2⟩))
      have B2 := Lib.hid (hb.trans (b2.mono hb.size))
      clear hi r2 O2 hb hc
      go_wp2
      go_roundw
      case rel => exact ⟨k + 1, _, by omega, by go_num, M2, B2.out.setCell (by simp) _⟩
      case measure => simp [intOf]; omega
    · obtain rfl : k = n := by omega
      go_wp2
      go_ret
      exact ⟨_, _, _, gs, rfl, hmade.out.rag HS.out.len, Nat.le_refl _, by omega, hb⟩

theorem eqSets_true (V V' : Option Addr) (n c c' : Nat) (yss : List (List Int)) (w : World) (h : Sets w w.heap.size V n yss) (h' : Sets w w.heap.size V' n yss) (hn : n + sizeL yss ≤ 1048576) :
    Calls Try.prog 40 #[.slice V n c, .slice V' n c'] w fun e w' => e = .returned (.bool true) ∧ ∃ q, w' = w.drewN q := by
  have HN := Lib.hid hn
  have hn1 : n ≤ 1048576 := by omega
  clear hn
  go_enter Try.func40, Try.ntmps40
  go_wp2
  go_loopw [5] (fun i wr => ∃ k q : Nat, k ≤ n ∧ i = .int .i64 k ∧ wr = w.drewN q) (fun i _ => n - (intOf i).toNat)
  case atStart => exact ⟨0, 0, Nat.zero_le _, rfl, rfl⟩
  case round =>
    obtain ⟨k, q, hk, rfl, rfl⟩ := hrel
    by_cases hlt : k < n
    · obtain ⟨ad, ys, A1, q1, c1, rfl, _, hy, hc, hi, _, _⟩ := h.at_ hlt
      obtain ⟨ad', ys', A2, q2, c2, rfl, _, hy', hc', hi', _, _⟩ := h'.at_ hlt
      obtain rfl : ys = ys' := by rw [hy] at hy'; injection hy'
      obtain rfl : q1 = q2 := by rw [← hi.len, ← hi'.len]
      have hq1 : q1 ≤ 1048576 := by have := fits_at HN.out hy; have := hi.len; omega
      have HI := Lib.hid hi
      have HI' := Lib.hid hi'
      have i0 : (0 : Int) ≤ (k : Int) := by omega
      have i1 : (k : Int) < (n : Int) := by omega
      clear hy hy' hi hi'
      go_wp2
      go_quiet ((go_at_call 39; exact quiet_add_on (eqInts_quiet _ _ _ _ _ ys _ (ints_drewN HI.out _) (ints_drewN HI'.out _) hq1)))
      go_wp2
      go_roundw
      case rel => exact ⟨k + 1, _, by omega, by go_num, rfl⟩
      case measure => simp [intOf]; omega
    · go_wp2
      go_ret
      exact ⟨rfl, q, rfl⟩

/-! marks -/
def rAt (k : Int) (yss : List (List Int)) (i : Nat) : Int := k + (sizeAt yss i : Nat)
/-- lists of the same lengths, marked one after the other -/
def marksR (k : Int) (yss : List (List Int)) : List (List Int) := (List.range yss.length).map (fun j => marks (rAt k yss j) (yss.getD j []).length)
def MarkedR (k : Int) (yss : List (List Int)) (i : Nat) (zss : List (List Int)) : Prop := zss.length = yss.length ∧ ∀ j, j < i → j < yss.length → zss[j]? = some (marks (rAt k yss j) (yss.getD j []).length)
theorem marksR_len (k : Int) (yss : List (List Int)) : (marksR k yss).length = yss.length := by simp [marksR]
theorem MarkedR.all {k : Int} {n : Nat} {yss zss : List (List Int)} (h : MarkedR k yss n zss) (hl : yss.length = n) : zss = marksR k yss := by
  refine List.ext_getElem? fun j => ?_
  unfold marksR
  rw [List.getElem?_map]
  rcases Nat.lt_or_ge j n with hlt | hge
  · rw [h.2 j hlt (by omega), List.getElem?_range (by omega)]; rfl
  · rw [List.getElem?_eq_none (by rw [h.1]; omega), List.getElem?_eq_none (by rw [List.length_range]; omega)]; rfl
theorem marksR_at {k : Int} {yss : List (List Int)} {j : Nat} {zs : List Int} (h : (marksR k yss)[j]? = some zs) : j < yss.length ∧ zs = marks (rAt k yss j) (yss.getD j []).length := by
  unfold marksR at h
  rw [List.getElem?_map] at h
  rcases hr : (List.range yss.length)[j]? with _ | u
  · rw [hr] at h; cases h
  · rw [hr] at h
    obtain ⟨hl, e⟩ := List.getElem?_eq_some_iff.1 hr
    rw [List.getElem_range] at e
    subst e
    exact ⟨by simpa using hl, by simpa using h.symm⟩
theorem rAt_range {k : Int} {yss : List (List Int)} {i : Nat} (k0 : 0 ≤ k) (k1 : k ≤ 4000000) (hs : sizeL yss ≤ 1048576) (hi : i ≤ yss.length) : 0 ≤ rAt k yss i ∧ rAt k yss i ≤ 6000000 := by
  have := sizeAt_under yss hi
  unfold rAt
  omega
theorem rAt_step {k : Int} {yss : List (List Int)} {i q : Nat} {ys : List Int} (h : yss[i]? = some ys) (hl : ys.length = q) : rAt k yss i + (q : Int) = rAt k yss (i + 1) := by
  unfold rAt
  rw [sizeAt_step h, hl]
  omega
theorem getD_list {yss : List (List Int)} {i : Nat} {ys : List Int} (h : yss[i]? = some ys) : yss.getD i [] = ys := by rw [List.getD_eq_getElem?_getD, h]; rfl

set_option maxRecDepth 100000 in
set_option maxHeartbeats 2000000 in
theorem markRag_any (V : Option Addr) (n c lo : Nat) (gs : List (Option Addr × Nat × Nat)) (yss : List (List Int)) (k : Int) (w : World) (h : Rag w lo V n gs yss) (hn : n + sizeL yss ≤ 1048576) (k0 : 0 ≤ k) (k1 : k ≤ 4000000) :
    Calls Try.prog 41 #[.slice V n c, .int .i64 k] w fun e w' => e = .returned (.int .i64 (rAt k yss n)) ∧ Rag w' lo V n gs (marksR k yss) ∧ ∀ hi, Top gs hi → Apart lo hi w w' := by
  have HP := Lib.hid h
  have HN := Lib.hid hn
  have hn1 : n ≤ 1048576 := by omega
  clear h hn
  have HK : Hid (k = rAt k yss 0) := Lib.hid (by unfold rAt; simp [sizeAt])
  go_enter Try.func41, Try.ntmps41
  go_wp2
  go_loopw [1, 5] (fun x y wr => ∃ (i : Nat) (zss : List (List Int)), i ≤ n ∧ y = .int .i64 i ∧ x = .int .i64 (rAt k yss i) ∧ Rag wr lo V n gs zss ∧ Hid (MarkedR k yss i zss) ∧ Hid (∀ hi, Top gs hi → Apart lo hi w wr)) (fun _ y _ => n - (intOf y).toNat)
  case atStart => exact ⟨0, yss, Nat.zero_le _, rfl, by rw [← HK.out], HP.out, Lib.hid ⟨rfl, fun j hj => absurd hj (by omega)⟩, Lib.hid (fun _ _ => Apart.refl _ _ _)⟩
  case round =>
    obtain ⟨i, zss, hi, rfl, rfl, hrag, hmk, hb⟩ := hrel
    by_cases hlt : i < n
    · obtain ⟨ad, a, zs, rfl, hlo, hsz2, ha, hz, hc⟩ := hrag.at_ hlt
      have hyi : yss[i]? = some (yss[i]'(by rw [HP.out.len]; exact hlt)) := List.getElem?_eq_getElem _
      generalize yss[i]'(by rw [HP.out.len]; exact hlt) = ys at hyi
      obtain ⟨p1, p2, p3, _⟩ := HP.out.inner i a ys ha hyi
      obtain ⟨i1, i2, i3, i4⟩ := hrag.inner i a zs ha hz
      obtain ⟨r0, r1⟩ := rAt_range (i := i) k0 k1 (show sizeL yss ≤ 1048576 by have := HN.out; omega) (by rw [HP.out.len]; omega)
      obtain ⟨r2, r3⟩ := rAt_range (i := i + 1) k0 k1 (show sizeL yss ≤ 1048576 by have := HN.out; omega) (by rw [HP.out.len]; omega)
      have HST := Lib.hid (rAt_step (k := k) hyi p1)
      have HGD := Lib.hid (getD_list hyi)
      have hq : a.2.1 ≤ 1048576 := by have := fits_at HN.out hyi; omega
      have HPI := Lib.hid hrag
      have HA := Lib.hid ha
      have HYL := Lib.hid p1
      have HIL := Lib.hid (show ys.length = a.2.1 from p1)
      have HBLO : Hid (∀ ad', 0 < a.2.1 → a.1 = some ad' → lo ≤ ad'.block ∧ Self wr ad' a.2.1 zs) := Lib.hid (fun ad' hp e => by
        obtain ⟨bd, e1, hs, h1, _⟩ := i4 hp
        rw [e1] at e; injection e with e; subst e; exact ⟨h1, hs⟩)
      have HO : Hid (∃ lo' hi', Own wr lo' hi' a.1 a.2.1 zs ∧ ((0 < a.2.1 ∧ ∃ bd, a.1 = some bd ∧ lo' = bd.block ∧ hi' = bd.block + 1) ∨ (a.2.1 = 0 ∧ hi' = 0))) := Lib.hid (by
        rcases Nat.eq_zero_or_pos a.2.1 with h0 | h0
        · refine ⟨0, 0, ?_, .inr ⟨h0, rfl⟩⟩
          have : zs = [] := List.eq_nil_of_length_eq_zero (by omega)
          subst this
          rw [h0]
          exact Own.nil _ (Nat.zero_le _)
        · obtain ⟨bd, e1, hs, h1, _⟩ := i4 h0
          refine ⟨bd.block, bd.block + 1, ?_, .inl ⟨h0, bd, e1, rfl, rfl⟩⟩
          rw [e1]; exact hs)
      obtain ⟨lo', hi', hO, hcase⟩ := HO.out
      have HOO := Lib.hid hO
      have HCS := Lib.hid hcase
      clear hrag ha hz hyi p1 p2 p3 i1 i2 i3 i4 HO hO hcase
      go_wp2_with fail
      refine (markInts_any _ _ _ _ (rAt k yss i) _ _ _ HOO.out hq r0 (by omega)).mono ?_
      rintro e w2 ⟨rfl, ho, row, hgr, hrow⟩
      have HR : Hid (∀ g, row = some g → 0 < a.2.1 ∧ ∃ bd, a.1 = some bd ∧ g = bd.block) := Lib.hid (fun g e => by
        have h1 := hrow g e
        rcases HCS.out with ⟨h0, bd, e1, e2, e3⟩ | ⟨h0, e2⟩
        · exact ⟨h0, bd, e1, by omega⟩
        · omega)
      have P2 := Lib.hid (HPI.out.write HA.out (marks_len (rAt k yss i) a.2.1) (fun bd hp e => by
        rcases HCS.out with ⟨h0, bd', e1, e2, e3⟩ | ⟨h0, e2⟩
        · rw [e1] at e; injection e with e; subst e
          rw [e1, e2, e3] at ho; exact ho
        · omega) hgr HR.out)
      have B2 : Hid (∀ hi, Top gs hi → Apart lo hi w w2) := Lib.hid (fun hi ht => (hb.out hi ht).grown hgr (fun g e => by
        obtain ⟨hp, bd, e1, e2⟩ := HR.out g e
        have h1 := (HBLO.out bd hp e1).1
        have h2 := ht i a bd HA.out hp e1
        omega))
      have M2 : Hid (MarkedR k yss (i + 1) (zss.set i (marks (rAt k yss i) a.2.1))) := Lib.hid ⟨by rw [List.length_set]; exact hmk.out.1, fun j hj hjl => by
        by_cases e : j = i
        · subst e
          rw [List.getElem?_set_self (by rw [HPI.out.len]; exact hlt), HGD.out, HIL.out]
        · rw [List.getElem?_set_ne (Ne.symm e)]
          exact hmk.out.2 j (by omega) hjl⟩
      rw [HST.out]
      clear ho hgr hrow hc HBLO HOO HCS
      go_wp2
      go_roundw
      case rel => exact ⟨i + 1, _, by omega, by go_num, rfl, P2.out, M2, B2⟩
      case measure => simp [intOf]; omega
    · obtain rfl : i = n := by omega
      have HE := Lib.hid (hmk.out.all HP.out.len)
      go_wp2
      go_ret
      refine ⟨rfl, ?_, hb.out⟩
      rw [← HE.out]
      exact hrag

set_option maxRecDepth 100000 in
set_option maxHeartbeats 2000000 in
theorem heldSets_any (V : Option Addr) (n c : Nat) (yss : List (List Int)) (k : Int) (w : World) (h : Sets w w.heap.size V n (marksR k yss)) (hn : n + sizeL yss ≤ 1048576) (k0 : 0 ≤ k) (k1 : k ≤ 4000000) :
    Calls Try.prog 42 #[.slice V n c, .int .i64 k] w fun e w' => e = .returned (.int .i64 (rAt k yss n)) ∧ w = w' := by
  have HK : Hid (k = rAt k yss 0) := Lib.hid (by unfold rAt; simp [sizeAt])
  have HP := Lib.hid h
  have HN := Lib.hid hn
  have hn1 : n ≤ 1048576 := by omega
  have HL : Hid (yss.length = n) := Lib.hid (by rw [← marksR_len k]; exact h.len)
  clear h hn
  go_enter Try.func42, Try.ntmps42
  go_wp2
  go_loop [1, 5] (fun x y => ∃ i : Nat, i ≤ n ∧ y = .int .i64 i ∧ x = .int .i64 (rAt k yss i)) (fun _ y => n - (intOf y).toNat)
  case atStart => exact ⟨0, Nat.zero_le _, rfl, by rw [← HK.out]⟩
  case round =>
    obtain ⟨i, hi, rfl, rfl⟩ := hrel
    by_cases hlt : i < n
    · obtain ⟨ad, zs, A, q, cc, rfl, hab, hz, hc, hin, _, _⟩ := HP.out.at_ hlt
      obtain ⟨_, rfl⟩ := marksR_at hz
      have hyi : yss[i]? = some (yss[i]'(by rw [HL.out]; exact hlt)) := List.getElem?_eq_getElem _
      generalize yss[i]'(by rw [HL.out]; exact hlt) = ys at hyi
      rw [getD_list hyi] at hin
      obtain rfl : ys.length = q := by rw [← hin.len, marks_len]
      obtain ⟨r0, r1⟩ := rAt_range (i := i) k0 k1 (show sizeL yss ≤ 1048576 by have := HN.out; omega) (by rw [HL.out]; omega)
      obtain ⟨r2, r3⟩ := rAt_range (i := i + 1) k0 k1 (show sizeL yss ≤ 1048576 by have := HN.out; omega) (by rw [HL.out]; omega)
      have HST := Lib.hid (rAt_step (k := k) hyi rfl)
      have hq : ys.length ≤ 1048576 := fits_at HN.out hyi
      have hneg : ¬ rAt k yss (i + 1) < 0 := by omega
      have HI := Lib.hid hin
      clear hin hz hyi
      generalize ys.length = q at *
      go_wp2_with fail
      refine (heldInts_any _ _ _ (rAt k yss i) _ HI.out hq r0 (by omega)).mono ?_
      rintro e w' ⟨rfl, rfl⟩
      rw [HST.out]
      go_wp2
      go_round
      case rel => exact ⟨i + 1, by omega, by go_num, rfl⟩
      case measure => simp [intOf]; omega
    · obtain rfl : i = n := by omega
      go_wp2
      go_ret
      exact ⟨rfl, rfl⟩

end Go.Proofs.Ytpabccgndhmcdaa
