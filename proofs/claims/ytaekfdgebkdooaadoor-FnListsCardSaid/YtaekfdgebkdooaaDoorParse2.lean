/- ReadList of the program: its contract, and the law's walk. -/
import Derived.Test.YtaekfdgebkdooaaDoorParse
namespace Go.Proofs.YtaekfdgebkdooaaDoor
open Go.RowKit

def allM (ws : List (List UInt8)) : Bool := ws.all rdM
theorem allM_no {ws : List (List UInt8)} {k : Nat} {x : List UInt8} (hx : ws[k]? = some x) (h : rdM x = false) : allM ws = false := by
  unfold allM
  rw [List.all_eq_false]
  exact ⟨x, List.mem_of_getElem? hx, by simp [h]⟩
theorem allM_step {ws : List (List UInt8)} {k : Nat} {x : List UInt8} (hx : ws[k]? = some x) (hk : allM (ws.take k) = true) (h : rdM x = true) : allM (ws.take (k + 1)) = true := by
  obtain ⟨hl, rfl⟩ := List.getElem?_eq_some_iff.1 hx
  unfold allM at *
  rw [List.take_succ_eq_append_getElem hl, List.all_append, hk]
  simp [h]
theorem allM_split (ws : List (List UInt8)) : allM ws = (rdAll ws && allIn 0 1000000000000 (vals ws)) := by
  induction ws with
  | nil => rfl
  | cons x r ih =>
    have e : allM (x :: r) = (rdM x && allM r) := rfl
    have e2 : rdAll (x :: r) = (rdB x && rdAll r) := rfl
    have e3 : allIn 0 1000000000000 (vals (x :: r)) = (inB (valD x) 0 1000000000000 && allIn 0 1000000000000 (vals r)) := rfl
    have e4 : inB (valD x) 0 1000000000000 = decide (valD x ≤ 1000000000000) := by
      rw [Bool.eq_iff_iff, inB_true, decide_eq_true_eq]; omega
    rw [e, e2, e3, e4, ih]
    unfold rdM
    cases rdB x <;> cases decide (valD x ≤ 1000000000000) <;> cases rdAll r <;> rfl
theorem ok_words {l : List UInt8} (h : l ≠ [45]) : okL l = (allM (cutL 44 l) && decide ((cutL 44 l).length ≤ 100)) := by
  unfold okL
  rcases hr : rdAll (cutL 44 l) with _ | _
  · obtain ⟨h1, h2⟩ := read_no h hr
    rw [allM_split, hr, h2]; rfl
  · obtain ⟨h1, h2⟩ := read_yes h hr
    have hl : (vals (cutL 44 l)).length = (cutL 44 l).length := by unfold vals; rw [List.length_map]
    rw [allM_split, hr, h2, h1]
    unfold withB
    rw [hl, Bool.true_and, Bool.true_and, Bool.and_comm]
theorem words_ok {l : List UInt8} (h : l ≠ [45]) (h1 : allM (cutL 44 l) = true) (h2 : (cutL 44 l).length ≤ 100) : outL l = vals (cutL 44 l) ∧ codeL l = 0 := by
  have hk : okL l = true := by rw [ok_words h, h1, decide_eq_true h2]; rfl
  have hr : rdAll (cutL 44 l) = true := by
    rw [allM_split, Bool.and_eq_true] at h1
    exact h1.1
  obtain ⟨h3, _⟩ := read_yes h hr
  simp [outL, codeL, hk, h3]
theorem words_bad {l : List UInt8} (h : l ≠ [45]) (h1 : allM (cutL 44 l) = false ∨ ¬ (cutL 44 l).length ≤ 100) : outL l = [] ∧ codeL l = 6 := by
  have hk : okL l = false := by
    rw [ok_words h]
    rcases h1 with h1 | h1
    · rw [h1]; rfl
    · rw [decide_eq_false h1, Bool.and_false]
  simp [outL, codeL, hk]

theorem fold_piece (b : UInt8) (l : List UInt8) : ∀ (st : List (List UInt8) × List UInt8) (m : Nat), (∀ x ∈ st.1, x.length ≤ m) → st.2.length ≤ m →
    (∀ x ∈ (l.foldl (cutStep b) st).1, x.length ≤ m + l.length) ∧ (l.foldl (cutStep b) st).2.length ≤ m + l.length := by
  induction l with
  | nil => intro st m h1 h2; exact ⟨fun x hx => by have := h1 x hx; simpa using this, by simpa using h2⟩
  | cons c r ih =>
    intro st m h1 h2
    rw [List.foldl_cons]
    have h3 : (∀ x ∈ (cutStep b st c).1, x.length ≤ m + 1) ∧ (cutStep b st c).2.length ≤ m + 1 := by
      unfold cutStep
      split
      · refine ⟨fun x hx => ?_, by simp⟩
        rcases List.mem_append.1 hx with hx | hx
        · have := h1 x hx; omega
        · simp at hx; subst hx; omega
      · refine ⟨fun x hx => by have := h1 x hx; omega, ?_⟩
        rw [List.length_append, List.length_singleton]; omega
    have h4 := ih _ (m + 1) h3.1 h3.2
    rw [List.length_cons]
    exact ⟨fun x hx => by have := h4.1 x hx; omega, by have := h4.2; omega⟩
theorem cut_piece (b : UInt8) (l : List UInt8) : ∀ x ∈ cutL b l, x.length ≤ l.length := by
  have h := fold_piece b l ([], []) 0 (fun x hx => by cases hx) (Nat.le_refl 0)
  intro x hx
  unfold cutL cutS at hx
  rcases List.mem_append.1 hx with hx | hx
  · have := h.1 x hx; omega
  · simp at hx; subst hx; have := h.2; omega

theorem count_sep (b : UInt8) (s : ByteArray) (w : World) :
    Calls Tryd.prog 53 #[.string s, .string ⟨#[b]⟩] w fun e w' => e = .returned (.int .i64 (s.data.toList.count b : Nat)) ∧ w = w' :=
  (Tryd.strings_Count_one s b w).mono fun _ _ ⟨he, hw⟩ => ⟨he, hw.symm⟩

/-- what strings.Split answers at a sign -/
def GivesCut (w : World) (ls : List (List UInt8)) (e : Ending) (w' : World) : Prop :=
  ∃ (g n : Nat) (ps : List ByteArray), e = .returned (.slice (some ⟨g, 0, none⟩) n n) ∧ ps.length = n ∧ bytesOf ps = ls ∧ g < w'.heap.size ∧ (∀ (j : Nat) p, ps[j]? = some p → w'.cell? ⟨g, j, none⟩ = some (.string p)) ∧ Below w.heap.size w w'
theorem split_sep (b : UInt8) (s : ByteArray) (hs : s.size ≤ 1048576) (w : World) (env : Env Tryd.prog w) :
    Calls Tryd.prog 54 #[.string s, .string ⟨#[b]⟩] w (GivesCut w (cutL b s.data.toList)) := by
  have hb : bytesOf (Lib.splitB ⟨#[b]⟩ 0 (Lib.countB s ⟨#[b]⟩) s) = cutL b s.data.toList := by
    unfold bytesOf
    rw [Lib.splitB_data]
    exact split_cut b _ s.data.toList (Nat.le_refl _)
  have hlen : (Lib.splitB ⟨#[b]⟩ 0 (Lib.countB s ⟨#[b]⟩) s).length = Lib.countB s ⟨#[b]⟩ + 1 := by
    have h1 := congrArg List.length hb
    unfold bytesOf at h1
    rw [List.length_map, cut_count] at h1
    rw [h1]
    have : Lib.countB s ⟨#[b]⟩ = s.data.toList.count b := Lib.count_one b s.data.toList
    rw [this]
  refine (Tryd.strings_Split_shaped s ⟨#[b]⟩ w env.1 (by omega) (Nat.le_refl 1)).mono ?_
  rintro e w' ⟨rfl, rfl⟩
  refine ⟨w.heap.size, _, _, rfl, hlen, hb, by simp, fun j p hp => ?_, (Below.refl _ _).alloc (Nat.le_refl _) _⟩
  rw [World.cell?_alloc_at _ _ _ _ rfl, List.getElem?_toArray, List.getElem?_map, hp]
  rfl

/-- the numbers that the words between the signs name, and whether they all are numbers, and few enough -/
def splB (b : UInt8) (l : List UInt8) : Bool := allM (cutL b l) && decide ((cutL b l).length ≤ 100)
def splL (b : UInt8) (l : List UInt8) : List Int := if splB b l then vals (cutL b l) else []
theorem spl_yes {b : UInt8} {l : List UInt8} (h1 : allM (cutL b l) = true) (h2 : (cutL b l).length ≤ 100) : splB b l = true ∧ splL b l = vals (cutL b l) := by
  have : splB b l = true := by unfold splB; rw [h1, decide_eq_true h2]; rfl
  exact ⟨this, by unfold splL; rw [this]; rfl⟩
theorem spl_no {b : UInt8} {l : List UInt8} (h : allM (cutL b l) = false ∨ ¬ (cutL b l).length ≤ 100) : splB b l = false ∧ splL b l = [] := by
  have : splB b l = false := by
    unfold splB
    rcases h with h | h
    · rw [h]; rfl
    · rw [decide_eq_false h, Bool.and_false]
  exact ⟨this, by unfold splL; rw [this]; rfl⟩
theorem ret_slb {A : Option Addr} {n c : Nat} {a b : Bool} (h : a = b) : Ending.returned (Value.tuple #[Value.slice A n c, Value.bool a]) = .returned (.tuple #[.slice A n c, .bool b]) := by rw [h]
/-- what a call answers that gives a list of numbers, and whether there is one -/
def GivesOk (w : World) (ok : Bool) (xs : List Int) (e : Ending) (w' : World) : Prop :=
  ∃ A n c, e = .returned (.tuple #[.slice A n c, .bool ok]) ∧ Own w' w.heap.size w'.heap.size A n xs ∧ n ≤ 1048576 ∧ n ≤ c ∧ c ≤ 9223372036854775807 ∧ Below w.heap.size w w'

set_option maxHeartbeats 2000000 in
theorem splitNumbers_any (b : UInt8) (s : ByteArray) (w : World) (hs : s.size ≤ 1048576) (env : Env Tryd.prog w) :
    Calls Tryd.prog 38 #[.string s, .string ⟨#[b]⟩] w (GivesOk w (splB b s.data.toList) (splL b s.data.toList)) := by
  have HE := Lib.hid env
  clear env
  have HC := Lib.hid (cut_count b s.data.toList)
  by_cases hc : 100 ≤ s.data.toList.count b
  · have HY := Lib.hid (spl_no (.inr (by rw [HC.out]; omega)))
    obtain ⟨q, hq⟩ : ∃ q, q = s.data.toList.count b := ⟨_, rfl⟩
    have HQ := Lib.hid hq
    rw [← hq] at hc
    clear hq
    go_enter Tryd.func38, Tryd.ntmps38
    go_wp2_with fail
    refine (count_sep b s _).mono ?_
    rintro e w' ⟨rfl, rfl⟩
    rw [← HQ.out]
    go_wp2
    go_ret2
    refine ⟨none, 0, 0, ret_slb HY.out.1.symm, ?_, by omega, by omega, by omega, Below.refl _ _⟩
    rw [HY.out.2]
    exact Own.nil _ (Nat.le_refl _)
  obtain ⟨q, hq⟩ : ∃ q, q = s.data.toList.count b := ⟨_, rfl⟩
  have HQ := Lib.hid hq
  rw [← hq] at hc
  clear hq
  have hq100 : q < 100 := by omega
  clear hc
  have HN : Hid ((cutL b s.data.toList).length = q + 1) := Lib.hid (by rw [HC.out, HQ.out])
  go_enter Tryd.func38, Tryd.ntmps38
  go_wp2_with fail
  refine (count_sep b s _).mono ?_
  rintro e w' ⟨rfl, rfl⟩
  rw [← HQ.out]
  go_wp2_with fail
  refine (split_sep b s hs _ HE.out).mono ?_
  rintro e w1 ⟨g, n, ps, rfl, hl, hps, hg, hcell, hb⟩
  have hn : n ≤ 100 := by
    have h1 := congrArg List.length hps
    unfold bytesOf at h1
    rw [List.length_map, hl, HN.out] at h1
    omega
  have HL := Lib.hid hl
  have HP := Lib.hid hps
  have HX := Lib.hid hcell
  have HB := Lib.hid hb
  have HLN : Hid ((cutL b s.data.toList).length = n) := Lib.hid (by rw [← hps]; unfold bytesOf; rw [List.length_map, hl])
  have hsz := hb.size
  clear hl hps hcell hb
  have hmk := run_make_row' (P := Tryd.prog) 24 2 (.int .i64 0) 8 Tryd.underlying24 Tryd.info2' rfl .i64 .i64 n (by omega) (by omega)
  go_wp2
  clear hmk
  go_loopw [24] (fun i wr => ∃ k : Nat, k ≤ n ∧ i = .int .i64 k ∧ wr.rowIs w1.heap.size 2 n (copied (vals (cutL b s.data.toList)) k) ∧ Hid (allM ((cutL b s.data.toList).take k) = true) ∧ Below w1.heap.size w1 wr) (fun i _ => n - (intOf i).toNat)
  case atStart =>
    refine ⟨0, Nat.zero_le _, rfl, (World.rowIs_made w1 (.int .i64 0) n 2).congr (fun i _ => by simp [copied]), Lib.hid rfl, (Below.refl _ _).alloc (Nat.le_refl _) _⟩
  case round =>
    obtain ⟨k, hk, rfl, hrow, hall, hbr⟩ := hrel
    have HR := Lib.hid hrow
    have HBR := Lib.hid hbr
    have hbs := hbr.size
    clear hrow hbr
    by_cases hlt : k < n
    · have hp : ps[k]? = some (ps[k]'(by have := HL.out; omega)) := List.getElem?_eq_getElem _
      obtain ⟨p, hpe⟩ : ∃ p, p = ps[k]'(by have := HL.out; omega) := ⟨_, rfl⟩
      rw [← hpe] at hp
      have hc : wr.cell? ⟨g, k, none⟩ = some (.string p) := (HBR.out.cell (p := ⟨g, k, none⟩) hg).trans (HX.out k p hp)
      have HW := Lib.hid (bytes_at HP.out hp)
      have hps : p.size ≤ 1048576 := by
        have h1 := cut_piece b s.data.toList _ (List.mem_of_getElem? HW.out)
        rw [bytes_len, bytes_len] at h1
        omega
      clear hp hpe
      rcases hq : rdM p.data.toList with _ | _
      · have HY := Lib.hid (spl_no (.inl (allM_no HW.out hq)))
        have HQ2 := Lib.hid hq
        clear hq
        go_wp2_with fail
        refine (readNumber_any _ _ hps ((HE.out.on HB.out).on HBR.out)).mono ?_
        rintro e w2 ⟨rfl, hb2⟩
        rw [HQ2.out]
        go_wp2
        go_ret2
        refine ⟨none, 0, 0, ret_slb HY.out.1.symm, ?_, by omega, by omega, by omega, HB.out.trans ((HBR.out.trans (hb2.mono hbs)).mono hsz)⟩
        rw [HY.out.2]
        exact Own.nil _ (Nat.le_refl _)
      · have HQ2 := Lib.hid hq
        have HV := Lib.hid (valM_yes hq)
        clear hq
        go_wp2_with fail
        refine (readNumber_any _ _ hps ((HE.out.on HB.out).on HBR.out)).mono ?_
        rintro e w2 ⟨rfl, hb2⟩
        rw [HQ2.out, HV.out]
        have hrow2 := HR.out.of_block (w' := w2) (hb2.block _ HR.out.lt)
        have hst := hrow2.cell hlt
        have hfz := hrow2.frozen k
        have HR2 := Lib.hid hrow2
        have HB2 := Lib.hid (HBR.out.trans (hb2.mono hbs))
        have hv : (vals (cutL b s.data.toList))[k]? = some (valD p.data.toList : Int) := by
          unfold vals
          rw [List.getElem?_map, HW.out]; rfl
        have HV2 := Lib.hid hv
        clear hrow2 hb2 hv
        go_wp2
        go_roundw
        case rel => exact ⟨k + 1, by omega, by go_num, (HR2.out.set k (.int .i64 (valD p.data.toList))).congr (fun j _ => copied_set HV2.out j), Lib.hid (allM_step HW.out hall.out HQ2.out), HB2.out.setCell (by simp) _⟩
        case measure => simp [intOf]; omega
    · have HT : Hid ((cutL b s.data.toList).take k = cutL b s.data.toList) := Lib.hid (List.take_of_length_le (by rw [HLN.out]; omega))
      have hall' : allM (cutL b s.data.toList) = true := by
        have h := hall.out
        rw [HT.out] at h
        exact h
      have HY := Lib.hid (spl_yes hall' (by rw [HLN.out]; omega))
      have hO : Own wr w1.heap.size wr.heap.size (some ⟨w1.heap.size, 0, none⟩) n (vals (cutL b s.data.toList)) := by
        refine Own.of_row (HR.out.congr (fun j hj => ?_)) (by unfold vals; rw [List.length_map, HLN.out]) (Nat.le_refl _)
        unfold copied
        rw [if_pos (by omega)]
      have HO := Lib.hid hO
      clear hall' hO
      go_wp2
      go_ret2
      refine ⟨_, n, n, ret_slb HY.out.1.symm, ?_, by omega, by omega, by omega, HB.out.trans (HBR.out.mono hsz)⟩
      rw [HY.out.2]
      exact HO.out.more hsz (Nat.le_refl _) (Nat.le_refl _)

set_option maxHeartbeats 2000000 in
theorem readList_any (s : ByteArray) (w : World) (hs : s.size ≤ 1048576) (env : Env Tryd.prog w) :
    Calls Tryd.prog 13 #[.string s] w (GivesInts w (codeL s.data.toList) (outL s.data.toList)) := by
  have HE := Lib.hid env
  clear env
  by_cases hd : s.data.toList = [45]
  · have HY : Hid (outL s.data.toList = [] ∧ codeL s.data.toList = 0) := Lib.hid (by
      obtain ⟨h1, h2⟩ := read_dash hd
      have h3 := okL_yes h2 (by rw [h1]; rfl)
      rw [h1] at h3
      exact h3)
    obtain rfl : s = ⟨#[45]⟩ := text_eq (by rw [hd])
    clear hd
    go_enter Tryd.func13, Tryd.ntmps13
    go_wp2
    go_ret2
    refine ⟨_, _, _, ret_si HY.out.2.symm, ?_, by omega, (Below.refl _ _).alloc (Nat.le_refl _) _⟩
    rw [HY.out.1]
    exact Own.nil _ (Nat.le_refl _)
  have hd2 := hd
  have hdash : (s.toList == [45]) = false := by
    rw [ByteArray.toList_eq]
    simpa using hd
  clear hd
  rcases hq : splB 44 s.data.toList with _ | _
  · have HY : Hid (outL s.data.toList = [] ∧ codeL s.data.toList = 6) := Lib.hid (words_bad hd2 (by
      unfold splB at hq
      rw [Bool.and_eq_false_iff] at hq
      rcases hq with h | h
      · exact .inl h
      · exact .inr (by simpa using h)))
    have HQ := Lib.hid hq
    clear hq hd2
    go_enter Tryd.func13, Tryd.ntmps13
    go_wp2_with fail
    refine (splitNumbers_any 44 s _ hs HE.out).mono ?_
    rintro e w1 ⟨A, n, c, rfl, _, _, _, _, hb⟩
    rw [HQ.out]
    go_wp2
    go_ret2
    refine ⟨none, 0, 0, ret_si HY.out.2.symm, ?_, by omega, hb⟩
    rw [HY.out.1]
    exact (Own.nil _ (Nat.le_refl _)).more hb.size (Nat.le_refl _) (Nat.le_refl _)
  · have HY : Hid (outL s.data.toList = splL 44 s.data.toList ∧ codeL s.data.toList = 0) := Lib.hid (by
      have h0 := hq
      unfold splB at h0
      rw [Bool.and_eq_true, decide_eq_true_eq] at h0
      have h := words_ok hd2 h0.1 h0.2
      rw [(spl_yes h0.1 h0.2).2]
      exact h)
    have HQ := Lib.hid hq
    clear hq hd2
    go_enter Tryd.func13, Tryd.ntmps13
    go_wp2_with fail
    refine (splitNumbers_any 44 s _ hs HE.out).mono ?_
    rintro e w1 ⟨A, n, c, rfl, ho, hn, _, _, hb⟩
    rw [HQ.out]
    go_wp2
    go_ret2
    refine ⟨A, n, c, ret_si HY.out.2.symm, ?_, hn, hb⟩
    rw [HY.out.1]
    exact ho

set_option maxHeartbeats 1000000 in
theorem lawReadList_any (s : ByteArray) (W : World) (env : Env Tryd.prog W) :
    Calls Tryd.prog 5 #[.string s] W fun e w' => e = .returned (.bool true) ∧ Below W.heap.size W w' := by
  have HE := Lib.hid env
  clear env
  by_cases hs : s.size ≤ 1048576
  · go_enter Tryd.func5, Tryd.ntmps5
    go_wp2_with fail
    refine (specReadList_any s _ hs).mono ?_
    rintro e w1 ⟨Aw, nw, cw, rfl, ow1, hnw, c1⟩
    go_wp2_with fail
    refine (readList_any s _ hs (HE.out.on c1)).mono ?_
    rintro e w2 ⟨Ag, ng, cg, rfl, og2, hng, b2⟩
    obtain rfl : nw = ng := by rw [← ow1.len, ← og2.len]
    have ow2 := ow1.below b2
    have c2 := below_trans' c1 b2
    have s1 := c1.size
    have s2 := b2.size
    clear c1 b2 ow1
    go_wp2_with fail
    refine (eqInts_true _ _ _ _ _ _ _ og2.ints ow2.ints hnw).mono ?_
    rintro e w3 ⟨rfl, b3⟩
    have ow3 := ow2.below b3
    have og3 := og2.below b3
    have c3 := below_trans' c2 b3
    clear c2 b3 ow2 og2
    go_wp2_with fail
    refine (markInts_any _ _ _ _ 1 _ _ _ og3 hnw (by omega) (by omega)).mono ?_
    rintro e w4 ⟨rfl, og4, row, hgr, hrow⟩
    have ow4 := ow3.apart hgr (fun g e => .inr (hrow g e).1)
    have c4 := below_grown c3 hgr (fun g e => by have := (hrow g e).1; omega)
    clear hgr hrow row c3 ow3 og3
    go_wp2_with fail
    refine (heldInts_any _ _ _ 1 _ og4.ints hnw (by omega) (by omega)).mono ?_
    rintro e w' ⟨rfl, rfl⟩
    have q1 : ((1 + (nw : Int)) != (1 + (nw : Int))) = false := by simp
    go_wp2_with fail
    refine (readList_any s _ hs (HE.out.on c4)).mono ?_
    rintro e w5 ⟨Ah, nh, ch, rfl, oh5, hnh, b5⟩
    obtain rfl : nw = nh := by rw [← ow4.len, ← oh5.len]
    have ow5 := ow4.below b5
    have og5 := og4.below b5
    have c5 := below_trans' c4 b5
    clear b5 c4 ow4 og4
    go_wp2_with fail
    refine (eqInts_true _ _ _ _ _ _ _ oh5.ints ow5.ints hnw).mono ?_
    rintro e w6 ⟨rfl, b6⟩
    have og6 := og5.below b6
    have c6 := below_trans' c5 b6
    clear b6 c5 ow5 og5 oh5
    go_wp2_with fail
    refine (heldInts_any _ _ _ 1 _ og6.ints hnw (by omega) (by omega)).mono ?_
    rintro e w' ⟨rfl, rfl⟩
    go_wp2
    go_ret
    exact ⟨rfl, c6⟩
  · go_enter Tryd.func5, Tryd.ntmps5
    go_wp2
    go_ret
    exact ⟨rfl, Below.refl _ _⟩

end Go.Proofs.YtaekfdgebkdooaaDoor
