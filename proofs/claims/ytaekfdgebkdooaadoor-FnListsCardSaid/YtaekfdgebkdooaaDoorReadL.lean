/- The model's l01Read and ReadList: their contracts. -/
import Derived.Test.YtaekfdgebkdooaaDoorSplit2
namespace Go.Proofs.YtaekfdgebkdooaaDoor
open Go.RowKit

def cellsI (xs : List Int) : List Value := xs.map (Value.int .i64)
theorem cellsI_snoc (xs : List Int) (v : Int) : cellsI xs ++ [.int .i64 v] = cellsI (xs ++ [v]) := by simp [cellsI]
theorem own_of_rows {w : World} {base t n : Nat} {v : Value} {xs : List Int} (h : w.ownsRow base t 1 v n (cellsI xs)) (hl : xs.length = n) : ∃ A c, v = .slice A n c ∧ Own w base w.heap.size A n xs := by
  rcases h.2 with ⟨rfl, rfl⟩ | ⟨g, cap, cur, rfl, hb, hg, hnc, hcm, hcs, htk⟩
  · obtain rfl := List.eq_nil_of_length_eq_zero hl
    exact ⟨none, 0, rfl, Own.nil _ (Nat.le_refl _)⟩
  · have hlt : g < w.heap.size := by
      rcases Nat.lt_or_ge g w.heap.size with h1 | h1
      · exact h1
      · rw [Array.getElem?_eq_none h1] at hg; cases hg
    refine ⟨_, _, rfl, hl, Nat.le_refl _, fun _ => ⟨_, rfl, hb, hlt, fun j u hu => ?_⟩⟩
    have hc := h.cells (g := g) rfl j (.int .i64 u) (by unfold cellsI; rw [List.getElem?_map, hu]; rfl)
    refine ⟨?_, hc⟩
    unfold Addr.add
    split <;> simp [World.frozen?, hg]

def rdAll (ws : List (List UInt8)) : Bool := ws.all rdB
def vals (ws : List (List UInt8)) : List Int := ws.map (fun w => (valD w : Int))
theorem rdAll_no {ws : List (List UInt8)} {k : Nat} {x : List UInt8} (hx : ws[k]? = some x) (h : rdB x = false) : rdAll ws = false := by
  unfold rdAll
  rw [List.all_eq_false]
  exact ⟨x, List.mem_of_getElem? hx, by simp [h]⟩
theorem rdAll_step {ws : List (List UInt8)} {k : Nat} {x : List UInt8} (hx : ws[k]? = some x) (hk : rdAll (ws.take k) = true) (h : rdB x = true) : rdAll (ws.take (k + 1)) = true := by
  obtain ⟨hl, rfl⟩ := List.getElem?_eq_some_iff.1 hx
  unfold rdAll at *
  rw [List.take_succ_eq_append_getElem hl, List.all_append, hk]
  simp [h]
theorem vals_step {ws : List (List UInt8)} {k : Nat} {x : List UInt8} (hx : ws[k]? = some x) : vals (ws.take (k + 1)) = vals (ws.take k) ++ [(valD x : Int)] := by
  obtain ⟨hl, rfl⟩ := List.getElem?_eq_some_iff.1 hx
  unfold vals
  rw [List.take_succ_eq_append_getElem hl, List.map_append]
  rfl
theorem rd_val {l : List UInt8} (h : rdB l = true) : valOut l = valD l := by
  unfold rdB at h
  simp at h
  simp [valOut, h.1]

def readOk (l : List UInt8) : Bool := decide (l = [45]) || rdAll (cutL 44 l)
def readV (l : List UInt8) : List Int := if l = [45] then [] else if rdAll (cutL 44 l) then vals (cutL 44 l) else []
theorem read_dash {l : List UInt8} (h : l = [45]) : readV l = [] ∧ readOk l = true := by simp [readV, readOk, h]
theorem read_no {l : List UInt8} (h : l ≠ [45]) (h2 : rdAll (cutL 44 l) = false) : readV l = [] ∧ readOk l = false := by simp [readV, readOk, h, h2]
theorem read_yes {l : List UInt8} (h : l ≠ [45]) (h2 : rdAll (cutL 44 l) = true) : readV l = vals (cutL 44 l) ∧ readOk l = true := by simp [readV, readOk, h, h2]

/-- what a call answers that gives a list of its own and a yes or no -/
def GivesIntsOk (w : World) (ok : Bool) (xs : List Int) (e : Ending) (w' : World) : Prop :=
  ∃ A n c, e = .returned (.tuple #[.slice A n c, .bool ok]) ∧ Own w' w.heap.size w'.heap.size A n xs ∧ n ≤ 1048577 ∧ Below w.heap.size w w'
theorem ret_sb {A : Option Addr} {n c : Nat} {a b : Bool} (h : a = b) : Ending.returned (.tuple #[.slice A n c, .bool a]) = .returned (.tuple #[.slice A n c, .bool b]) := by rw [h]

theorem own_below {w w2 : World} {base t n : Nat} {v : Value} {xs : List Value} (h : w.ownsRow base t 1 v n xs) (hb : Below w.heap.size w w2) : w2.ownsRow base t 1 v n xs := by
  refine ⟨h.1, ?_⟩
  rcases h.2 with h0 | ⟨g, cap, cur, e, h1, hg, rest⟩
  · exact .inl h0
  · have hlt : g < w.heap.size := by
      rcases Nat.lt_or_ge g w.heap.size with h2 | h2
      · exact h2
      · rw [Array.getElem?_eq_none h2] at hg; cases hg
    exact .inr ⟨g, cap, cur, e, h1, (hb.block g hlt).trans hg, rest⟩
theorem str_cell {w : World} {base t n k : Nat} {v : Value} {ps : List ByteArray} (h : w.ownsRow base t 1 v n (strs ps)) (hl : ps.length = n) (hk : k < n) :
    ∃ g cap p, v = .slice (some ⟨g, 0, none⟩) n cap ∧ base ≤ g ∧ g < w.heap.size ∧ ps[k]? = some p ∧ w.cell? ⟨g, k, none⟩ = some (.string p) := by
  obtain ⟨g, cap, hv, hb, hlt⟩ := h.form (by omega)
  have hx : ps[k]? = some ps[k] := List.getElem?_eq_getElem (by omega)
  refine ⟨g, cap, ps[k], hv, hb, hlt, hx, ?_⟩
  have hc := h.cells (g := g) (by rw [hv]; rfl) k (.string ps[k]) (by unfold strs; rw [List.getElem?_map, hx]; rfl)
  unfold Addr.add at hc
  split at hc
  · next h0 => subst h0; exact hc
  · simpa using hc

theorem l01Split_comma (s : ByteArray) (w : World) (hs : s.size ≤ 1048576) :
    Calls Tryd.prog 64 #[.string s, .int .u8 44] w (GivesStrs w (cutL 44 s.data.toList)) := l01Split_any s 44 w hs
theorem bytes_at {ps : List ByteArray} {ls : List (List UInt8)} {k : Nat} {p : ByteArray} (h : bytesOf ps = ls) (hp : ps[k]? = some p) : ls[k]? = some p.data.toList := by
  rw [← h]; unfold bytesOf; rw [List.getElem?_map, hp]; rfl

set_option maxHeartbeats 2000000 in
theorem l01Read_any (s : ByteArray) (w : World) (hs : s.size ≤ 1048576) :
    Calls Tryd.prog 39 #[.string s] w (GivesIntsOk w (readOk s.data.toList) (readV s.data.toList)) := by
  by_cases hd : s.data.toList = [45]
  · have HY := Lib.hid (read_dash hd)
    obtain rfl : s = ⟨#[45]⟩ := text_eq (by rw [hd])
    clear hd
    go_enter Tryd.func39, Tryd.ntmps39
    go_wp2
    go_ret2
    refine ⟨_, _, _, ret_sb HY.out.2.symm, ?_, by omega, (Below.refl _ _).alloc (Nat.le_refl _) _⟩
    rw [HY.out.1]
    exact Own.nil _ (Nat.le_refl _)
  have hdash : (s.toList == [45]) = false := by
    rw [ByteArray.toList_eq]
    simpa using hd
  have HD := Lib.hid hd
  obtain ⟨i0, hi, hz0, hz1, hz2⟩ := info_parts Tryd.info2'
  have HI := Lib.hid (And.intro hi (And.intro hz0 (And.intro hz1 hz2)))
  clear hi hz0 hz1 hz2 hd
  have HC := Lib.hid (cut_count 44 s.data.toList)
  have HN : Hid ((cutL 44 s.data.toList).length ≤ 1048577) := Lib.hid (by
    rw [HC.out]
    have := List.count_le_length (a := (44 : UInt8)) (l := s.data.toList)
    rw [bytes_len] at this
    omega)
  go_enter Tryd.func39, Tryd.ntmps39
  go_wp2_with fail
  refine (l01Split_comma _ _ hs).mono ?_
  rintro e w1 ⟨v, ps, rfl, hown, hps, hb⟩
  have hl : ps.length = (cutL 44 s.data.toList).length := by rw [← hps]; unfold bytesOf; rw [List.length_map]
  have hpos : 0 < ps.length := by rw [hl, HC.out]; omega
  have hn : ps.length ≤ 1048577 := by rw [hl]; exact HN.out
  obtain ⟨g, cap, rfl, hg1, hg2⟩ := hown.form hpos
  have HO := Lib.hid hown
  have HP := Lib.hid hps
  have HB := Lib.hid hb
  have HL := Lib.hid hl
  have hsz := hb.size
  clear hown hps hb hl hpos
  go_wp2
  go_loopw [5, 6] (fun x i wr => ∃ k : Nat, k ≤ ps.length ∧ i = .int .i64 k ∧ wr.ownsRow w1.heap.size 2 1 x k (cellsI (vals ((cutL 44 s.data.toList).take k))) ∧ Hid (rdAll ((cutL 44 s.data.toList).take k) = true) ∧ Below w1.heap.size w1 wr) (fun _ i _ => ps.length - (intOf i).toNat)
  case atStart => exact ⟨0, Nat.zero_le _, rfl, own_empty (Nat.le_refl _), Lib.hid rfl, (Below.refl _ _).alloc (Nat.le_refl _) _⟩
  case round =>
    obtain ⟨k, hk, rfl, hx, hall, hbr⟩ := hrel
    have HX := Lib.hid hx
    have hbs := hbr.size
    have HBR := Lib.hid hbr
    clear hx hbr
    by_cases hlt : k < ps.length
    · obtain ⟨g', cap', p, e, _, hg', hp, hc⟩ := str_cell HO.out rfl hlt
      obtain rfl : g = g' := by
        have := congrArg Value.ownBlock e
        simpa [Value.ownBlock] using this
      clear e
      have hcr : wr.cell? ⟨g, k, none⟩ = some (.string p) := (HBR.out.cell (p := ⟨g, k, none⟩) hg').trans hc
      have HW := Lib.hid (bytes_at HP.out hp)
      clear hp hc
      rcases hq : rdB p.data.toList with _ | _
      · have HY := Lib.hid (read_no HD.out (rdAll_no HW.out hq))
        have HQ := Lib.hid hq
        clear hq
        go_wp2_with fail
        refine (l01Value_any _ _).mono ?_
        rintro e w2 ⟨rfl, hb2⟩
        rw [HQ.out]
        go_wp2
        go_ret2
        refine ⟨_, _, _, ret_sb HY.out.2.symm, ?_, by omega, HB.out.trans ((HBR.out.trans (hb2.mono hbs)).mono hsz)⟩
        rw [HY.out.1]
        exact Own.nil _ (Nat.le_refl _)
      · have HQ := Lib.hid hq
        have HV := Lib.hid (rd_val hq)
        go_wp2_with fail
        refine (l01Value_any _ _).mono ?_
        rintro e w2 ⟨rfl, hb2⟩
        rw [HV.out, HQ.out]
        clear hq
        have HX2 := Lib.hid (own_below HX.out hb2)
        have HB2 := Lib.hid (HBR.out.trans (hb2.mono hbs))
        have hs2 := hb2.size
        clear hb2
        go_wp2_with (at_builtin; refine wpList_append_lies _ rfl _ _ 24 rfl w1.heap.size 2 i0 _ 1 8 Tryd.underlying24 HI.out.1 HI.out.2.1 HI.out.2.2.1 HI.out.2.2.2 rfl (by omega) _ k _ rfl (HX2.out.alloc _) ⟨w2.heap.size, 0, none⟩ 1 1 [.int .i64 (valD p.data.toList)] rfl rfl (World.news_of_block (cs := #[.int .i64 (valD p.data.toList)]) (t := 2) (fr := (0, 0)) (heap_alloc_new w2 _)) (by simp [Value.oneCell']) (by omega) (by unfold maxLen; omega) (by omega) (by simp; omega) (w2.heap.size + 1) (by simp) ?_; intro gg cap2 w3 hown3 hgrow hat hlt3)
        go_roundw
        case rel =>
          refine ⟨k + 1, by omega, by go_num, ?_, Lib.hid (rdAll_step HW.out hall.out HQ.out), ?_⟩
          · rw [vals_step HW.out, ← cellsI_snoc]; exact hown3
          · exact (HB2.out.alloc (by omega) _).grown hgrow (by simp; omega) (own_base' HX2.out)
        case measure => simp [intOf]; omega
    · have HT : Hid ((cutL 44 s.data.toList).take k = cutL 44 s.data.toList) := Lib.hid (List.take_of_length_le (by rw [← HL.out]; omega))
      have hv : (vals (cutL 44 s.data.toList)).length = k := by
        unfold vals
        rw [List.length_map, ← HL.out]; omega
      have hx : wr.ownsRow w1.heap.size 2 1 u5 k (cellsI (vals (cutL 44 s.data.toList))) := by
        have h := HX.out
        rw [HT.out] at h
        exact h
      have hr : rdAll (cutL 44 s.data.toList) = true := by
        have h := hall.out
        rw [HT.out] at h
        exact h
      have HY := Lib.hid (read_yes HD.out hr)
      obtain ⟨A, c, rfl, hO⟩ := own_of_rows hx hv
      have HO2 := Lib.hid hO
      have hk2 : k ≤ 1048577 := by omega
      clear hx hr hv hO
      go_wp2
      go_ret2
      refine ⟨A, k, c, ret_sb HY.out.2.symm, ?_, hk2, HB.out.trans (HBR.out.mono hsz)⟩
      rw [HY.out.1]
      exact HO2.out.more hsz (Nat.le_refl _) (Nat.le_refl _)

def okL (l : List UInt8) : Bool := readOk l && withB 0 1000000000000 (readV l)
def outL (l : List UInt8) : List Int := if okL l then readV l else []
def codeL (l : List UInt8) : Int := if okL l then 0 else 6
theorem okL_no {l : List UInt8} (h : readOk l = false ∨ withB 0 1000000000000 (readV l) = false) : outL l = [] ∧ codeL l = 6 := by
  have : okL l = false := by unfold okL; rcases h with h | h <;> simp [h]
  simp [outL, codeL, this]
theorem okL_yes {l : List UInt8} (h : readOk l = true) (h2 : withB 0 1000000000000 (readV l) = true) : outL l = readV l ∧ codeL l = 0 := by
  have : okL l = true := by unfold okL; simp [h, h2]
  simp [outL, codeL, this]

theorem specReadList_any (s : ByteArray) (w : World) (hs : s.size ≤ 1048576) :
    Calls Tryd.prog 14 #[.string s] w (GivesInts w (codeL s.data.toList) (outL s.data.toList)) := by
  rcases h1 : readOk s.data.toList with _ | _
  · have HY := Lib.hid (okL_no (l := s.data.toList) (.inl h1))
    have H1 := Lib.hid h1
    clear h1
    go_enter Tryd.func14, Tryd.ntmps14
    go_wp2_with fail
    refine (l01Read_any _ _ hs).mono ?_
    rintro e w1 ⟨A, n, c, rfl, hO, hn, hb⟩
    rw [H1.out]
    go_wp2
    go_ret2
    refine ⟨none, 0, 0, ret_si HY.out.2.symm, ?_, by omega, hb⟩
    rw [HY.out.1]
    exact Own.nil _ (Nat.le_refl _)
  rcases h2 : withB 0 1000000000000 (readV s.data.toList) with _ | _
  · have HY := Lib.hid (okL_no (l := s.data.toList) (.inr h2))
    have H1 := Lib.hid h1
    have H2 := Lib.hid h2
    clear h1 h2
    go_enter Tryd.func14, Tryd.ntmps14
    go_wp2_with fail
    refine (l01Read_any _ _ hs).mono ?_
    rintro e w1 ⟨A, n, c, rfl, hO, hn, hb⟩
    rw [H1.out]
    go_wp2_with fail
    refine (l01Numbers_big _ _ _ _ _ hO.ints (by omega)).mono ?_
    rintro e w' ⟨rfl, rfl⟩
    rw [H2.out]
    go_wp2
    go_ret2
    refine ⟨none, 0, 0, ret_si HY.out.2.symm, ?_, by omega, hb⟩
    rw [HY.out.1]
    exact Own.nil _ (Nat.le_refl _)
  · have HY := Lib.hid (okL_yes (l := s.data.toList) h1 h2)
    have H1 := Lib.hid h1
    have H2 := Lib.hid h2
    clear h1 h2
    go_enter Tryd.func14, Tryd.ntmps14
    go_wp2_with fail
    refine (l01Read_any _ _ hs).mono ?_
    rintro e w1 ⟨A, n, c, rfl, hO, hn, hb⟩
    rw [H1.out]
    have hn1 : n ≤ 1048576 := by
      have h3 := (withB_true H2.out).1
      have h4 := hO.len
      omega
    go_wp2_with fail
    refine (l01Numbers_big _ _ _ _ _ hO.ints (by omega)).mono ?_
    rintro e w' ⟨rfl, rfl⟩
    rw [H2.out]
    go_wp2
    go_ret2
    refine ⟨A, n, c, ret_si HY.out.2.symm, ?_, hn1, hb⟩
    rw [HY.out.1]
    exact hO

end Go.Proofs.YtaekfdgebkdooaaDoor
