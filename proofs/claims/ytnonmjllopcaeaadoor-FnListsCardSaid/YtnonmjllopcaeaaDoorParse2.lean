/- ReadList of the program: its contract, and the law's walk. -/
import Derived.Test.YtnonmjllopcaeaaDoorParse
namespace Go.Proofs.YtnonmjllopcaeaaDoor
open Go.RowKit

def allM (ws : List (List UInt8)) : Bool := ws.all rdM
theorem allM_no {ws : List (List UInt8)} {k : Nat} {x : List UInt8} (hx : ws[k]? = some x) (h : rdM x = false) : allM ws = false := by
  unfold allM
  rw [List.all_eq_false]
  exact ⟨x, List.mem_of_getElem? hx, by simp [h]⟩
theorem allM_step {ws : List (List UInt8)} {k : Nat} {x : List UInt8} (hx : ws[k]? = some x) (hk : allM (ws.take k) = true) (h : rdM x = true) : allM (ws.take (k + 1)) = true := by
  obtain ⟨hl, rfl⟩ := List.getElem?_eq_some_iff.1 hx
  unfold allM at *
  rw [List.take_succ_eq_append_getElem hl, List.all_append, hk]
  simp [h]
theorem allM_split (ws : List (List UInt8)) : allM ws = (rdAll ws && allIn 0 1000000000000 (vals ws)) := by
  induction ws with
  | nil => rfl
  | cons x r ih =>
    have e : allM (x :: r) = (rdM x && allM r) := rfl
    have e2 : rdAll (x :: r) = (rdB x && rdAll r) := rfl
    have e3 : allIn 0 1000000000000 (vals (x :: r)) = (inB (valD x) 0 1000000000000 && allIn 0 1000000000000 (vals r)) := rfl
    have e4 : inB (valD x) 0 1000000000000 = decide (valD x ≤ 1000000000000) := by
      rw [Bool.eq_iff_iff, inB_true, decide_eq_true_eq]; omega
    rw [e, e2, e3, e4, ih]
    unfold rdM
    cases rdB x <;> cases decide (valD x ≤ 1000000000000) <;> cases rdAll r <;> rfl
theorem ok_words {l : List UInt8} (h : l ≠ [45]) : okL l = (allM (cutL 44 l) && decide ((cutL 44 l).length ≤ 100)) := by
  unfold okL
  rcases hr : rdAll (cutL 44 l) with _ | _
  · obtain ⟨h1, h2⟩ := read_no h hr
    rw [allM_split, hr, h2]; rfl
  · obtain ⟨h1, h2⟩ := read_yes h hr
    have hl : (vals (cutL 44 l)).length = (cutL 44 l).length := by unfold vals; rw [List.length_map]
    rw [allM_split, hr, h2, h1]
    unfold withB
    rw [hl, Bool.true_and, Bool.true_and, Bool.and_comm]
theorem words_ok {l : List UInt8} (h : l ≠ [45]) (h1 : allM (cutL 44 l) = true) (h2 : (cutL 44 l).length ≤ 100) : outL l = vals (cutL 44 l) ∧ codeL l = 0 := by
  have hk : okL l = true := by rw [ok_words h, h1, decide_eq_true h2]; rfl
  have hr : rdAll (cutL 44 l) = true := by
    rw [allM_split, Bool.and_eq_true] at h1
    exact h1.1
  obtain ⟨h3, _⟩ := read_yes h hr
  simp [outL, codeL, hk, h3]
theorem words_bad {l : List UInt8} (h : l ≠ [45]) (h1 : allM (cutL 44 l) = false ∨ ¬ (cutL 44 l).length ≤ 100) : outL l = [] ∧ codeL l = 6 := by
  have hk : okL l = false := by
    rw [ok_words h]
    rcases h1 with h1 | h1
    · rw [h1]; rfl
    · rw [decide_eq_false h1, Bool.and_false]
  simp [outL, codeL, hk]

theorem fold_piece (b : UInt8) (l : List UInt8) : ∀ (st : List (List UInt8) × List UInt8) (m : Nat), (∀ x ∈ st.1, x.length ≤ m) → st.2.length ≤ m →
    (∀ x ∈ (l.foldl (cutStep b) st).1, x.length ≤ m + l.length) ∧ (l.foldl (cutStep b) st).2.length ≤ m + l.length := by
  induction l with
  | nil => intro st m h1 h2; exact ⟨fun x hx => by have := h1 x hx; simpa using this, by simpa using h2⟩
  | cons c r ih =>
    intro st m h1 h2
    rw [List.foldl_cons]
    have h3 : (∀ x ∈ (cutStep b st c).1, x.length ≤ m + 1) ∧ (cutStep b st c).2.length ≤ m + 1 := by
      unfold cutStep
      split
      · refine ⟨fun x hx => ?_, by simp⟩
        rcases List.mem_append.1 hx with hx | hx
        · have := h1 x hx; omega
        · simp at hx; subst hx; omega
      · refine ⟨fun x hx => by have := h1 x hx; omega, ?_⟩
        rw [List.length_append, List.length_singleton]; omega
    have h4 := ih _ (m + 1) h3.1 h3.2
    rw [List.length_cons]
    exact ⟨fun x hx => by have := h4.1 x hx; omega, by have := h4.2; omega⟩
theorem cut_piece (b : UInt8) (l : List UInt8) : ∀ x ∈ cutL b l, x.length ≤ l.length := by
  have h := fold_piece b l ([], []) 0 (fun x hx => by cases hx) (Nat.le_refl 0)
  intro x hx
  unfold cutL cutS at hx
  rcases List.mem_append.1 hx with hx | hx
  · have := h.1 x hx; omega
  · simp at hx; subst hx; have := h.2; omega

theorem count_comma (s : ByteArray) (w : World) :
    Calls Tryd.prog 21 #[.string s, .string ⟨#[44]⟩] w fun e w' => e = .returned (.int .i64 (s.data.toList.count 44 : Nat)) ∧ w = w' :=
  (Tryd.strings_Count_one s 44 w).mono fun _ _ ⟨he, hw⟩ => ⟨he, hw.symm⟩

/-- what strings.Split answers at a comma -/
def GivesCut (w : World) (ls : List (List UInt8)) (e : Ending) (w' : World) : Prop :=
  ∃ (g n : Nat) (ps : List ByteArray), e = .returned (.slice (some ⟨g, 0, none⟩) n n) ∧ ps.length = n ∧ bytesOf ps = ls ∧ g < w'.heap.size ∧ (∀ (j : Nat) p, ps[j]? = some p → w'.cell? ⟨g, j, none⟩ = some (.string p)) ∧ Below w.heap.size w w'
theorem split_comma (s : ByteArray) (hs : s.size ≤ 1048576) (w : World) (env : Env Tryd.prog w) :
    Calls Tryd.prog 22 #[.string s, .string ⟨#[44]⟩] w (GivesCut w (cutL 44 s.data.toList)) := by
  have hb : bytesOf (Lib.splitB ⟨#[44]⟩ 0 (Lib.countB s ⟨#[44]⟩) s) = cutL 44 s.data.toList := by
    unfold bytesOf
    rw [Lib.splitB_data]
    exact split_cut 44 _ s.data.toList (Nat.le_refl _)
  have hlen : (Lib.splitB ⟨#[44]⟩ 0 (Lib.countB s ⟨#[44]⟩) s).length = Lib.countB s ⟨#[44]⟩ + 1 := by
    have h1 := congrArg List.length hb
    unfold bytesOf at h1
    rw [List.length_map, cut_count] at h1
    rw [h1]
    have : Lib.countB s ⟨#[44]⟩ = s.data.toList.count 44 := Lib.count_one 44 s.data.toList
    rw [this]
  refine (Tryd.strings_Split_shaped s ⟨#[44]⟩ w env.1 (by omega) (Nat.le_refl 1)).mono ?_
  rintro e w' ⟨rfl, rfl⟩
  refine ⟨w.heap.size, _, _, rfl, hlen, hb, by simp, fun j p hp => ?_, (Below.refl _ _).alloc (Nat.le_refl _) _⟩
  rw [World.cell?_alloc_at _ _ _ _ rfl, List.getElem?_toArray, List.getElem?_map, hp]
  rfl

set_option maxHeartbeats 2000000 in
theorem readList_any (s : ByteArray) (w : World) (hs : s.size ≤ 1048576) (env : Env Tryd.prog w) :
    Calls Tryd.prog 9 #[.string s] w (GivesInts w (codeL s.data.toList) (outL s.data.toList)) := by
  have HE := Lib.hid env
  clear env
  by_cases hd : s.data.toList = [45]
  · have HY : Hid (outL s.data.toList = [] ∧ codeL s.data.toList = 0) := Lib.hid (by
      obtain ⟨h1, h2⟩ := read_dash hd
      have h3 := okL_yes h2 (by rw [h1]; rfl)
      rw [h1] at h3
      exact h3)
    obtain rfl : s = ⟨#[45]⟩ := text_eq (by rw [hd])
    clear hd
    go_enter Tryd.func9, Tryd.ntmps9
    go_wp2
    go_ret2
    refine ⟨_, _, _, ret_si HY.out.2.symm, ?_, by omega, (Below.refl _ _).alloc (Nat.le_refl _) _⟩
    rw [HY.out.1]
    exact Own.nil _ (Nat.le_refl _)
  have hdash : (s.toList == [45]) = false := by
    rw [ByteArray.toList_eq]
    simpa using hd
  have HD := Lib.hid hd
  clear hd
  have HC := Lib.hid (cut_count 44 s.data.toList)
  by_cases hc : 100 ≤ s.data.toList.count 44
  · have HY := Lib.hid (words_bad HD.out (.inr (by rw [HC.out]; omega)))
    obtain ⟨q, hq⟩ : ∃ q, q = s.data.toList.count 44 := ⟨_, rfl⟩
    have HQ := Lib.hid hq
    rw [← hq] at hc
    clear hq
    go_enter Tryd.func9, Tryd.ntmps9
    go_wp2_with fail
    refine (count_comma s _).mono ?_
    rintro e w' ⟨rfl, rfl⟩
    rw [← HQ.out]
    go_wp2
    go_ret2
    refine ⟨none, 0, 0, ret_si HY.out.2.symm, ?_, by omega, Below.refl _ _⟩
    rw [HY.out.1]
    exact Own.nil _ (Nat.le_refl _)
  obtain ⟨q, hq⟩ : ∃ q, q = s.data.toList.count 44 := ⟨_, rfl⟩
  have HQ := Lib.hid hq
  rw [← hq] at hc
  clear hq
  have hq100 : q < 100 := by omega
  clear hc
  have HN : Hid ((cutL 44 s.data.toList).length = q + 1) := Lib.hid (by rw [HC.out, HQ.out])
  go_enter Tryd.func9, Tryd.ntmps9
  go_wp2_with fail
  refine (count_comma s _).mono ?_
  rintro e w' ⟨rfl, rfl⟩
  rw [← HQ.out]
  go_wp2_with fail
  refine (split_comma s hs _ HE.out).mono ?_
  rintro e w1 ⟨g, n, ps, rfl, hl, hps, hg, hcell, hb⟩
  have hn : n ≤ 100 := by
    have h1 := congrArg List.length hps
    unfold bytesOf at h1
    rw [List.length_map, hl, HN.out] at h1
    omega
  have HL := Lib.hid hl
  have HP := Lib.hid hps
  have HX := Lib.hid hcell
  have HB := Lib.hid hb
  have HLN : Hid ((cutL 44 s.data.toList).length = n) := Lib.hid (by rw [← hps]; unfold bytesOf; rw [List.length_map, hl])
  have hsz := hb.size
  clear hl hps hcell hb
  have hmk := run_make_row' (P := Tryd.prog) 24 2 (.int .i64 0) 8 Tryd.underlying24 Tryd.info2' rfl .i64 .i64 n (by omega) (by omega)
  go_wp2
  clear hmk
  go_loopw [23] (fun i wr => ∃ k : Nat, k ≤ n ∧ i = .int .i64 k ∧ wr.rowIs w1.heap.size 2 n (copied (vals (cutL 44 s.data.toList)) k) ∧ Hid (allM ((cutL 44 s.data.toList).take k) = true) ∧ Below w1.heap.size w1 wr) (fun i _ => n - (intOf i).toNat)
  case atStart =>
    refine ⟨0, Nat.zero_le _, rfl, (World.rowIs_made w1 (.int .i64 0) n 2).congr (fun i _ => by simp [copied]), Lib.hid rfl, (Below.refl _ _).alloc (Nat.le_refl _) _⟩
  case round =>
    obtain ⟨k, hk, rfl, hrow, hall, hbr⟩ := hrel
    have HR := Lib.hid hrow
    have HBR := Lib.hid hbr
    have hbs := hbr.size
    clear hrow hbr
    by_cases hlt : k < n
    · have hp : ps[k]? = some (ps[k]'(by have := HL.out; omega)) := List.getElem?_eq_getElem _
      obtain ⟨p, hpe⟩ : ∃ p, p = ps[k]'(by have := HL.out; omega) := ⟨_, rfl⟩
      rw [← hpe] at hp
      have hc : wr.cell? ⟨g, k, none⟩ = some (.string p) := (HBR.out.cell (p := ⟨g, k, none⟩) hg).trans (HX.out k p hp)
      have HW := Lib.hid (bytes_at HP.out hp)
      have hps : p.size ≤ 1048576 := by
        have h1 := cut_piece 44 s.data.toList _ (List.mem_of_getElem? HW.out)
        rw [bytes_len, bytes_len] at h1
        omega
      clear hp hpe
      rcases hq : rdM p.data.toList with _ | _
      · have HY := Lib.hid (words_bad HD.out (.inl (allM_no HW.out hq)))
        have HQ2 := Lib.hid hq
        clear hq
        go_wp2_with fail
        refine (readNumber_any _ _ hps ((HE.out.on HB.out).on HBR.out)).mono ?_
        rintro e w2 ⟨rfl, hb2⟩
        rw [HQ2.out]
        go_wp2
        go_ret2
        refine ⟨none, 0, 0, ret_si HY.out.2.symm, ?_, by omega, HB.out.trans ((HBR.out.trans (hb2.mono hbs)).mono hsz)⟩
        rw [HY.out.1]
        exact Own.nil _ (Nat.le_refl _)
      · have HQ2 := Lib.hid hq
        have HV := Lib.hid (valM_yes hq)
        clear hq
        go_wp2_with fail
        refine (readNumber_any _ _ hps ((HE.out.on HB.out).on HBR.out)).mono ?_
        rintro e w2 ⟨rfl, hb2⟩
        rw [HQ2.out, HV.out]
        have hrow2 := HR.out.of_block (w' := w2) (hb2.block _ HR.out.lt)
        have hst := hrow2.cell hlt
        have hfz := hrow2.frozen k
        have HR2 := Lib.hid hrow2
        have HB2 := Lib.hid (HBR.out.trans (hb2.mono hbs))
        have hv : (vals (cutL 44 s.data.toList))[k]? = some (valD p.data.toList : Int) := by
          unfold vals
          rw [List.getElem?_map, HW.out]; rfl
        have HV2 := Lib.hid hv
        clear hrow2 hb2 hv
        go_wp2
        go_roundw
        case rel => exact ⟨k + 1, by omega, by go_num, (HR2.out.set k (.int .i64 (valD p.data.toList))).congr (fun j _ => copied_set HV2.out j), Lib.hid (allM_step HW.out hall.out HQ2.out), HB2.out.setCell (by simp) _⟩
        case measure => simp [intOf]; omega
    · have HT : Hid ((cutL 44 s.data.toList).take k = cutL 44 s.data.toList) := Lib.hid (List.take_of_length_le (by rw [HLN.out]; omega))
      have hall' : allM (cutL 44 s.data.toList) = true := by
        have h := hall.out
        rw [HT.out] at h
        exact h
      have HY := Lib.hid (words_ok HD.out hall' (by rw [HLN.out]; omega))
      have hO : Own wr w1.heap.size wr.heap.size (some ⟨w1.heap.size, 0, none⟩) n (vals (cutL 44 s.data.toList)) := by
        refine Own.of_row (HR.out.congr (fun j hj => ?_)) (by unfold vals; rw [List.length_map, HLN.out]) (Nat.le_refl _)
        unfold copied
        rw [if_pos (by omega)]
      have HO := Lib.hid hO
      clear hall' hO
      go_wp2
      go_ret2
      refine ⟨_, n, n, ret_si HY.out.2.symm, ?_, by omega, HB.out.trans (HBR.out.mono hsz)⟩
      rw [HY.out.1]
      exact HO.out.more hsz (Nat.le_refl _) (Nat.le_refl _)

end Go.Proofs.YtnonmjllopcaeaaDoor
