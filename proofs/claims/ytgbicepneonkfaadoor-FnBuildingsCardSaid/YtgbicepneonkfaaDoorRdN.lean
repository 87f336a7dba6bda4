/- Words of a text of a building, as the program reads them. -/
import Derived.Test.YtgbicepneonkfaaDoorRdS
namespace Go.Proofs.YtgbicepneonkfaaDoor
open Go Go.RowKit

theorem suffix_one (l : List UInt8) (c : UInt8) : Lib.hasSuffix l [c] = (l.getLast? == some c) := by
  unfold Lib.hasSuffix
  rcases List.eq_nil_or_concat l with rfl | ⟨i, x, rfl⟩
  · rfl
  · rw [List.concat_eq_append, List.getLast?_concat, Bool.eq_iff_iff, List.isSuffixOf_iff_suffix, beq_iff_eq]
    constructor
    · rintro ⟨t, h⟩
      have := (List.append_inj' h rfl).2
      injection this with h1 _
      rw [h1]
    · intro h
      injection h with h
      exact ⟨i, by rw [h]⟩
theorem trim_one {l : List UInt8} {c : UInt8} (h : l.getLast? = some c) : Lib.trimSuffix l [c] = l.dropLast := by
  unfold Lib.trimSuffix
  rw [suffix_one, h, if_pos (by simp), List.dropLast_eq_take]; rfl
theorem trim_not {l : List UInt8} {c : UInt8} (h : l.getLast? ≠ some c) : Lib.trimSuffix l [c] = l := by
  unfold Lib.trimSuffix
  rw [suffix_one, if_neg (by simpa using h)]
theorem cut_yes (c : UInt8) (u : ByteArray) (w : World) (hs : u.size ≤ 1048576) (h : u.data.toList.getLast? = some c) (tt : ByteArray) (ht : tt.data.toList = u.data.toList.dropLast) :
    Calls Tryd.prog 87 #[.string u, .string ⟨#[c]⟩] w fun e w' => e = .returned (.tuple #[.string tt, .bool true]) ∧ w = w' := by
  obtain rfl : tt = ⟨u.data.toList.dropLast.toArray⟩ := text_eq (by rw [ht])
  clear ht
  refine (Tryd.strings_CutSuffix u ⟨#[c]⟩ w (by omega)).mono ?_
  rintro e w' ⟨rfl, rfl⟩
  refine ⟨?_, rfl⟩
  rw [show (⟨#[c]⟩ : ByteArray).data.toList = [c] from rfl, trim_one h, suffix_one, h]
  simp
theorem cut_no (c : UInt8) (u : ByteArray) (w : World) (hs : u.size ≤ 1048576) (h : u.data.toList.getLast? ≠ some c) :
    Calls Tryd.prog 87 #[.string u, .string ⟨#[c]⟩] w fun e w' => e = .returned (.tuple #[.string u, .bool false]) ∧ w = w' := by
  refine (Tryd.strings_CutSuffix u ⟨#[c]⟩ w (by omega)).mono ?_
  rintro e w' ⟨rfl, rfl⟩
  refine ⟨?_, rfl⟩
  rw [show (⟨#[c]⟩ : ByteArray).data.toList = [c] from rfl, trim_not h, suffix_one, beq_eq_false_iff_ne.2 h]
/-- what readNode answers -/
def GivesNode (w : World) (l : List UInt8) (e : Ending) (w' : World) : Prop :=
  ∃ (pv : Int) (dv : Bool), e = .returned (.tuple #[.int .i64 pv, .bool dv, .bool (goodW l)]) ∧ (goodW l = true → pv = wPar l ∧ dv = wDor l) ∧ Below w.heap.size w w'
theorem good_last {l : List UInt8} (h : l.getLast? = some 100 ∨ l.getLast? = some 103) : goodW l = rdM l.dropLast := by
  unfold goodW
  have h2 : (l.getLast? == some 100 || l.getLast? == some 103) = true := by rcases h with h | h <;> rw [h] <;> rfl
  rw [h2, Bool.and_true]
  rcases hr : rdM l.dropLast with _ | _
  · simp
  · have := (digs_of_rdB (by unfold rdM at hr; rw [Bool.and_eq_true] at hr; exact hr.1)).2.1
    rw [List.length_dropLast] at this
    rw [decide_eq_true (by omega)]; rfl
theorem good_not {l : List UInt8} (h1 : l.getLast? ≠ some 100) (h2 : l.getLast? ≠ some 103) : goodW l = false := by
  unfold goodW
  rw [beq_eq_false_iff_ne.2 h1, beq_eq_false_iff_ne.2 h2]; simp

set_option maxRecDepth 100000 in
set_option maxHeartbeats 2000000 in
theorem readNode_any (u : ByteArray) (w : World) (hs : u.size ≤ 1048576) (env : Env Tryd.prog w) :
    Calls Tryd.prog 43 #[.string u] w (GivesNode w u.data.toList) := by
  have HE := Lib.hid env
  clear env
  obtain ⟨tt, ht⟩ : ∃ tt : ByteArray, tt.data.toList = u.data.toList.dropLast := ⟨⟨u.data.toList.dropLast.toArray⟩, rfl⟩
  have hz : tt.size ≤ 1048576 := by rw [← bytes_len, ht, List.length_dropLast, bytes_len]; omega
  have E1 := Lib.hid ht
  clear ht
  by_cases h1 : u.data.toList.getLast? = some 100
  · have HG := Lib.hid (good_last (.inl h1))
    have HD : Hid (wDor u.data.toList = true) := Lib.hid (by unfold wDor; rw [h1]; rfl)
    have H1 := Lib.hid h1
    clear h1
    unfold GivesNode
    rw [HG.out]
    go_enter Tryd.func43, Tryd.ntmps43
    go_wp2_with fail
    refine (cut_yes 100 u _ hs H1.out tt E1.out).mono ?_
    rintro e w' ⟨rfl, rfl⟩
    go_wp2_with fail
    refine (readNumber_any _ _ hz HE.out).mono ?_
    rw [E1.out]
    rintro e w2 ⟨rfl, b2⟩
    go_wp2
    go_ret3
    exact ⟨_, _, rfl, fun hr => ⟨valM_yes hr, HD.out.symm⟩, b2⟩
  have H1 := Lib.hid h1
  clear h1
  by_cases h2 : u.data.toList.getLast? = some 103
  · have HG := Lib.hid (good_last (.inr h2))
    have HD : Hid (wDor u.data.toList = false) := Lib.hid (by unfold wDor; rw [h2]; rfl)
    have H2 := Lib.hid h2
    clear h2
    unfold GivesNode
    rw [HG.out]
    go_enter Tryd.func43, Tryd.ntmps43
    go_wp2_with fail
    refine (cut_no 100 u _ hs H1.out).mono ?_
    rintro e w' ⟨rfl, rfl⟩
    go_wp2_with fail
    refine (cut_yes 103 u _ hs H2.out tt E1.out).mono ?_
    rintro e w' ⟨rfl, rfl⟩
    go_wp2_with fail
    refine (readNumber_any _ _ hz HE.out).mono ?_
    rw [E1.out]
    rintro e w2 ⟨rfl, b2⟩
    go_wp2
    go_ret3
    exact ⟨_, _, rfl, fun hr => ⟨valM_yes hr, HD.out.symm⟩, b2⟩
  have HG := Lib.hid (good_not H1.out h2)
  have H2 := Lib.hid h2
  clear h2
  unfold GivesNode
  rw [HG.out]
  go_enter Tryd.func43, Tryd.ntmps43
  go_wp2_with fail
  refine (cut_no 100 u _ hs H1.out).mono ?_
  rintro e w' ⟨rfl, rfl⟩
  go_wp2_with fail
  refine (cut_no 103 u _ hs H2.out).mono ?_
  rintro e w' ⟨rfl, rfl⟩
  go_wp2
  go_ret3
  exact ⟨_, _, rfl, (fun hr => by cases hr), Below.refl _ _⟩

/-- the pieces that the program cuts -/
def pcs (l : List UInt8) : List (List UInt8) := Lib.splitK [32] 0 (min 24 (l.length + 1) - 1) l
def prW (ws : List (List UInt8)) (k : Nat) : List Int := -1 :: (ws.take k).map wPar
def drW (ws : List (List UInt8)) (k : Nat) : List Bool := false :: (ws.take k).map wDor
theorem prW_succ {ws : List (List UInt8)} {k : Nat} {x : List UInt8} (h : ws[k]? = some x) : prW ws (k + 1) = prW ws k ++ [wPar x] := by
  unfold prW; rw [take_map_step wPar h]; rfl
theorem drW_succ {ws : List (List UInt8)} {k : Nat} {x : List UInt8} (h : ws[k]? = some x) : drW ws (k + 1) = drW ws k ++ [wDor x] := by
  unfold drW; rw [take_map_step wDor h]; rfl
theorem pcs_cases (l : List UInt8) : (pcs l = cutL 32 l ∧ nw l ≤ 24) ∨ ((pcs l).length = 24 ∧ rdG l = false) := by
  have hc : nw l = l.count 32 + 1 := cut_count 32 l
  have hl := List.count_le_length (a := (32 : UInt8)) (l := l)
  by_cases h : l.count 32 ≤ 23
  · exact .inl ⟨(split_few 32 _ l).1 (by omega), by omega⟩
  · refine .inr ⟨?_, rd_long (by omega)⟩
    unfold pcs
    rw [(split_few 32 _ l).2 (by omega)]
    omega
theorem pcs_len (l : List UInt8) : (pcs l).length ≤ 24 := by
  rcases pcs_cases l with ⟨h, h2⟩ | ⟨h, _⟩
  · rw [h]; exact h2
  · omega
theorem pcs_bad {l : List UInt8} {k : Nat} {x : List UInt8} (h : (pcs l)[k]? = some x) (hg : goodW x = false) : rdG l = false := by
  rcases pcs_cases l with ⟨e, _⟩ | ⟨_, e⟩
  · rw [e] at h; exact rd_bad h hg
  · exact e
theorem pcs_no {l : List UInt8} (h : bldB (prW (pcs l) (pcs l).length) (drW (pcs l) (pcs l).length) = false) : rdG l = false := by
  rcases pcs_cases l with ⟨e, _⟩ | ⟨_, e⟩
  · rw [e] at h; exact rd_not h
  · exact e
theorem pcs_yes {l : List UInt8} (hg : ∀ u ∈ pcs l, goodW u = true) (h : bldB (prW (pcs l) (pcs l).length) (drW (pcs l) (pcs l).length) = true) : rdG l = true ∧ prW (pcs l) (pcs l).length = prL l ∧ drW (pcs l) (pcs l).length = drL l := by
  rcases pcs_cases l with ⟨e, _⟩ | ⟨e, _⟩
  · rw [e] at h hg ⊢
    exact ⟨rd_back hg h, rfl, rfl⟩
  · have := (bld_tree h).2.2.1
    unfold prW at this
    rw [List.length_cons, List.length_map, List.take_length, e] at this
    omega
theorem piece_len : ∀ (m : Nat) (r : List UInt8), r.length ≤ 1048576 → ∀ u ∈ Lib.splitK [32] 0 m r, u.length ≤ 1048576 := by
  intro m
  induction m with
  | zero => intro r hr u hu; rw [show Lib.splitK [32] 0 0 r = [r] from rfl] at hu; rw [List.mem_singleton.1 hu]; exact hr
  | succ m ih =>
    intro r hr u hu
    unfold Lib.splitK at hu
    split at hu
    · rw [List.mem_singleton.1 hu]; exact hr
    · rcases List.mem_cons.1 hu with rfl | h
      · rw [List.length_take]; omega
      · exact ih _ (by rw [List.length_drop]; omega) u h
theorem pcs_piece {l : List UInt8} (hl : l.length ≤ 1048576) {k : Nat} {u : List UInt8} (h : (pcs l)[k]? = some u) : u.length ≤ 1048576 := piece_len _ l hl u (List.mem_of_getElem? h)

/-- what strings.SplitN answers -/
def GivesCutN (w : World) (ls : List (List UInt8)) (e : Ending) (w' : World) : Prop :=
  ∃ (n c : Nat) (ps : List ByteArray), e = .returned (.slice (some ⟨w.heap.size, 0, none⟩) n c) ∧ ps.length = n ∧ bytesOf ps = ls ∧ w.heap.size < w'.heap.size ∧ (∀ (j : Nat) p, ps[j]? = some p → w'.cell? ⟨w.heap.size, j, none⟩ = some (.string p)) ∧ Below w.heap.size w w'
theorem splitN_any (s : ByteArray) (hs : s.size ≤ 1048576) (w : World) (env : Env Tryd.prog w) :
    Calls Tryd.prog 42 #[.string s, .string ⟨#[32]⟩, .int .i64 24] w (GivesCutN w (pcs s.data.toList)) := by
  have hb : bytesOf (Lib.splitB ⟨#[32]⟩ 0 (min 24 (s.size + 1) - 1) s) = pcs s.data.toList := by
    unfold bytesOf pcs
    rw [Lib.splitB_data, bytes_len]
  refine (Tryd.strings_SplitN_shaped s ⟨#[32]⟩ 24 w env.1 (by omega) (Nat.le_refl 1) (by omega) (by omega)).mono ?_
  rintro e w' ⟨rfl, rfl⟩
  refine ⟨_, _, _, rfl, rfl, hb, by simp, fun j p hp => ?_, (Below.refl _ _).alloc (Nat.le_refl _) _⟩
  rw [World.cell?_alloc_at _ _ _ _ rfl]
  unfold Lib.cellsOf
  obtain ⟨hj, _⟩ := List.getElem?_eq_some_iff.1 hp
  rw [List.getElem?_toArray, List.getElem?_append_left (by rw [List.length_map]; exact hj), List.getElem?_map, hp]
  rfl

end Go.Proofs.YtgbicepneonkfaaDoor
