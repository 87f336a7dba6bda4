/- The model's l01Split: its contract. -/
import Derived.Test.YtgbicepneonkfaaDoorRead
import Derived.Test.YtgbicepneonkfaaDoorSplit
import Derived.Deep.AppendLies
namespace Go.Proofs.YtgbicepneonkfaaDoor
open Go.RowKit

def strs (ps : List ByteArray) : List Value := ps.map Value.string
def bytesOf (ps : List ByteArray) : List (List UInt8) := ps.map (fun p => p.data.toList)
theorem strs_snoc (ps : List ByteArray) (p : ByteArray) : strs ps ++ [.string p] = strs (ps ++ [p]) := by simp [strs]
theorem bytesOf_snoc (ps : List ByteArray) (p : ByteArray) : bytesOf (ps ++ [p]) = bytesOf ps ++ [p.data.toList] := by simp [bytesOf]
theorem own_base' {w : World} {base t n : Nat} {v : Value} {xs : List Value} (h : w.ownsRow base t 1 v n xs) : ∀ k, v.ownBlock = some k → base ≤ k := by
  intro k hk
  rcases h.2 with ⟨rfl, _⟩ | ⟨g, cap, cur, rfl, hb, _⟩
  · cases hk
  · have : g = k := by simpa [Value.ownBlock] using hk
    omega
theorem own_empty {w : World} {base t : Nat} (hb : base ≤ w.heap.size) : (w.alloc (.cells #[] t)).ownsRow base t 1 (.slice (some ⟨w.heap.size, 0, none⟩) 0 0) 0 [] :=
  ⟨rfl, .inr ⟨w.heap.size, 0, #[], rfl, hb, heap_alloc_new w _, Nat.le_refl _, by unfold maxLen; omega, rfl, rfl⟩⟩

theorem piece_end (s : ByteArray) (f k : Nat) (h : f ≤ k) (hk : k < s.size) : (s.extract f (k + 1)).data.toList = (s.extract f k).data.toList ++ [s[k]] := by
  rw [Lib.extract_data, Lib.extract_data]
  have e : k + 1 - f = (k - f) + 1 := by omega
  have hl : k - f < (s.data.toList.drop f).length := by rw [List.length_drop, bytes_len]; omega
  have hg : (s.data.toList.drop f)[k - f] = s[k] := by
    rw [List.getElem_drop]
    simp only [show f + (k - f) = k by omega]
    rfl
  rw [e, List.take_succ_eq_append_getElem hl, hg]
theorem piece_none (s : ByteArray) (f : Nat) : (s.extract f f).data.toList = [] := by
  rw [Lib.extract_data, Nat.sub_self, List.take_zero]

/-- the pieces that are done before place k -/
def piecesAt (b : UInt8) (l : List UInt8) (n k : Nat) : List (List UInt8) := if k ≤ n then (cutS b (l.take k)).1 else cutL b l
theorem pieces_here {b : UInt8} {l : List UInt8} {n k : Nat} (h : k ≤ n) : piecesAt b l n k = (cutS b (l.take k)).1 := if_pos h
theorem pieces_end {b : UInt8} {l : List UInt8} {n k : Nat} (h : ¬ k ≤ n) : piecesAt b l n k = cutL b l := if_neg h

theorem Tryd.info9s : (Tryd.prog.info? 9).map (fun i => (i.zero, i.size, i.bytes)) = some (some (.string ByteArray.empty), 1, 16) := by kernel_rfl

/-- what a call answers that gives a list of texts of its own -/
def GivesStrs (w : World) (ls : List (List UInt8)) (e : Ending) (w' : World) : Prop :=
  ∃ (v : Value) (ps : List ByteArray), e = .returned v ∧ w'.ownsRow w.heap.size 9 1 v ps.length (strs ps) ∧ bytesOf ps = ls ∧ Below w.heap.size w w'

set_option maxHeartbeats 2000000 in
theorem l01Split_any (s : ByteArray) (b : UInt8) (w : World) (hs : s.size ≤ 1048576) :
    Calls Tryd.prog 44 #[.string s, .int .u8 b.toNat] w (GivesStrs w (cutL b s.data.toList)) := by
  obtain ⟨i0, hi, hz0, hz1, hz2⟩ := info_parts Tryd.info9s
  have HI := Lib.hid (And.intro hi (And.intro hz0 (And.intro hz1 hz2)))
  clear hi hz0 hz1 hz2
  have hb256 := UInt8.toNat_lt b
  go_enter Tryd.func44, Tryd.ntmps44
  go_wp2
  go_loopw [5, 6, 7] (fun v fr i wr => ∃ (k f : Nat) (ps : List ByteArray), k ≤ s.size + 1 ∧ i = .int .i64 k ∧ fr = .int .i64 f ∧ f ≤ k ∧ ps.length ≤ k ∧ wr.ownsRow w.heap.size 9 1 v ps.length (strs ps) ∧
      Hid (bytesOf ps = piecesAt b s.data.toList s.size k) ∧ Hid (k ≤ s.size → (s.extract f k).data.toList = (cutS b (s.data.toList.take k)).2) ∧ Below w.heap.size w wr) (fun _ _ i _ => s.size + 1 - (intOf i).toNat)
  case atStart =>
    refine ⟨0, 0, [], by omega, rfl, rfl, Nat.le_refl 0, Nat.le_refl 0, own_empty (Nat.le_refl _), Lib.hid (by rw [pieces_here (Nat.zero_le _)]; rfl), Lib.hid (fun _ => piece_none s 0), (Below.refl _ _).alloc (Nat.le_refl _) _⟩
  case round =>
    obtain ⟨k, f, ps, hk, rfl, rfl, hf, hp, hown, hps, hcur, hb⟩ := hrel
    have HO := Lib.hid hown
    have hsz := hb.size
    clear hown
    by_cases hlt : k < s.size
    · have hne : ((k : Int) == (s.size : Int)) = false := by simp; omega
      have HT := Lib.hid (take_byte s k hlt)
      by_cases hc : s[k] = b
      · have hcb : ((s[k].toNat : Int) == (b.toNat : Int)) = true := by rw [hc]; simp
        have HC := Lib.hid hc
        clear hc
        go_wp2_with (at_builtin; refine wpList_append_lies _ rfl _ _ 63 rfl w.heap.size 9 i0 _ 1 16 Tryd.underlying63 HI.out.1 HI.out.2.1 HI.out.2.2.1 HI.out.2.2.2 rfl (by omega) _ ps.length _ rfl (HO.out.alloc _) ⟨wr.heap.size, 0, none⟩ 1 1 [.string (s.extract f k)] rfl rfl (World.news_of_block (cs := #[.string (s.extract f k)]) (t := 9) (fr := (0, 0)) (heap_alloc_new wr _)) (by simp [Value.oneCell']) (by omega) (by unfold maxLen; omega) (by omega) (by simp; omega) (wr.heap.size + 1) (by simp) ?_; intro gg cap w1 hown1 hgrow hat hlt3)
        go_roundw
        case rel =>
          refine ⟨k + 1, k + 1, ps ++ [s.extract f k], by omega, by go_num, by go_num, Nat.le_refl _, by rw [List.length_append, List.length_singleton]; omega, ?_, Lib.hid ?_, Lib.hid ?_, ?_⟩
          · rw [← strs_snoc, List.length_append, List.length_singleton]; exact hown1
          · rw [bytesOf_snoc, hps.out, pieces_here (by omega), pieces_here (by omega), HT.out, cutS_snoc, hcur.out (by omega)]
            simp [cutStep, HC.out]
          · intro _
            rw [HT.out, cutS_snoc, piece_none]
            simp [cutStep, HC.out]
          · exact (hb.alloc hsz _).grown hgrow (by simp; omega) (own_base' HO.out)
        case measure => simp [intOf]; omega
      · have hcb : ((s[k].toNat : Int) == (b.toNat : Int)) = false := by
          simp only [beq_eq_false_iff_ne, ne_eq]
          intro e
          exact hc (UInt8.toNat_inj.1 (by omega))
        have HC := Lib.hid hc
        clear hc
        go_wp2
        go_roundw
        case rel =>
          refine ⟨k + 1, f, ps, by omega, by go_num, rfl, by omega, by omega, HO.out, Lib.hid ?_, Lib.hid ?_, hb⟩
          · rw [hps.out, pieces_here (by omega), pieces_here (by omega), HT.out, cutS_snoc]
            simp [cutStep, HC.out]
          · intro _
            rw [HT.out, cutS_snoc, piece_end s f k hf hlt, hcur.out (by omega)]
            simp [cutStep, HC.out]
        case measure => simp [intOf]; omega
    · have HX := Lib.hid (take_bytes s k hlt)
      by_cases hk2 : k = s.size
      · subst hk2
        clear hlt hk
        go_wp2_with (at_builtin; refine wpList_append_lies _ rfl _ _ 63 rfl w.heap.size 9 i0 _ 1 16 Tryd.underlying63 HI.out.1 HI.out.2.1 HI.out.2.2.1 HI.out.2.2.2 rfl (by omega) _ ps.length _ rfl (HO.out.alloc _) ⟨wr.heap.size, 0, none⟩ 1 1 [.string (s.extract f s.size)] rfl rfl (World.news_of_block (cs := #[.string (s.extract f s.size)]) (t := 9) (fr := (0, 0)) (heap_alloc_new wr _)) (by simp [Value.oneCell']) (by omega) (by unfold maxLen; omega) (by omega) (by simp; omega) (wr.heap.size + 1) (by simp) ?_; intro gg cap w1 hown1 hgrow hat hlt3)
        go_roundw
        case rel =>
          refine ⟨s.size + 1, s.size + 1, ps ++ [s.extract f s.size], by omega, by go_num, by go_num, Nat.le_refl _, by rw [List.length_append, List.length_singleton]; omega, ?_, Lib.hid ?_, Lib.hid ?_, ?_⟩
          · rw [← strs_snoc, List.length_append, List.length_singleton]; exact hown1
          · rw [bytesOf_snoc, hps.out, pieces_here (Nat.le_refl _), pieces_end (by omega), hcur.out (Nat.le_refl _), HX.out]
            rfl
          · intro h; omega
          · exact (hb.alloc hsz _).grown hgrow (by simp; omega) (own_base' HO.out)
        case measure => simp [intOf]
      · have hgt : ¬ (k : Int) ≤ (s.size : Int) := by omega
        have HB := Lib.hid hb
        have hgt' : ¬ k ≤ s.size := by omega
        clear hlt hk2 hb
        go_wp2
        go_ret
        refine ⟨_, ps, rfl, HO.out, ?_, HB.out⟩
        rw [hps.out, pieces_end hgt']

end Go.Proofs.YtgbicepneonkfaaDoor
