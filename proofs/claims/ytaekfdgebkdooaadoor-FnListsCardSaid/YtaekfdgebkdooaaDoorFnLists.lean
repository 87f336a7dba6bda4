/- The law of lists: its walk. -/
import Derived.Test.YtaekfdgebkdooaaDoorDrawRead
import Derived.Test.YtaekfdgebkdooaaDoorListMath
import Derived.Test.YtaekfdgebkdooaaDoorFnBase
import Derived.Deep.DeepCutAuto
namespace Go.Proofs.YtaekfdgebkdooaaDoor
open Go.RowKit

set_option maxRecDepth 100000 in
set_option maxHeartbeats 4000000 in
theorem fnLists_any (A : Option Addr) (n c : Nat) (w : World) (h : Bts w w.heap.size A n) (env : Env Tryd.prog w) :
    Calls Tryd.prog 3 #[.slice A n c] w fun e w' => e = .returned (.bool true) ∧ Below w.heap.size w w' := by
  have HE := Lib.hid env
  clear env
  by_cases hn : n ≤ 4096
  · have d0 : decide (4096 < (n : Int)) = false := by simp; omega
    have HB := Lib.hid h
    clear h
    go_enter Tryd.func3, Tryd.ntmps3
    go_wp2_with fail
    refine (big_any _ _ _ _).mono ?_
    rintro e w' ⟨rfl, rfl⟩
    rw [d0]
    clear d0
    go_wp2_with fail
    refine (drawText_any w.heap.size A n c w HB.out (Nat.le_refl _) hn).mono ?_
    rintro e w1 ⟨D, m, d, xs, rfl, hx1, hm, hmd, b1⟩
    have hi1 := hx1.ints
    clear hx1
    go_wp2_with fail
    refine (listText_any _ _ _ xs _ hi1 (by omega) (HE.out.on b1).2.1).mono ?_
    rintro e w2 ⟨t, rfl, ht, htm, b2⟩
    have b2' := below_trans' b1 b2
    have hi2 := hi1.on b2
    clear b1 b2 hi1
    go_wp2_with fail
    refine (specListText_any _ _ _ xs _ hi2 (by omega)).mono ?_
    rintro e w3 ⟨t', rfl, ht', _, b3⟩
    obtain rfl : t = t' := text_eq (ht.trans ht'.symm)
    have HT := Lib.hid ht
    have b3' := below_trans' b2' b3
    have hi3 := hi2.on b3
    have HB3 := Lib.hid (HB.out.keep (w' := w3) (fun p hp => b3'.cell hp))
    have s3 := b3'.size
    clear b2' b3 hi2 ht ht'
    go_wp2_with fail
    refine (drawRead_any w.heap.size A n c w3 HB3.out s3 hn).mono ?_
    rintro e w4 ⟨s, rfl, hs, b4⟩
    have b4' := below_trans' b3' b4
    have hi4 := hi3.on b4
    clear b3' b4 hi3 HB3 s3
    go_wp2_with fail
    refine (readList_any s _ (by omega) (HE.out.on b4')).mono ?_
    rintro e w5 ⟨Ag, ng, cg, rfl, og5, hng, b5⟩
    have b5' := below_trans' b4' b5
    have hi5 := hi4.on b5
    have hg5 := og5.ints
    clear b4' b5 hi4 og5
    go_wp2_with fail
    refine (specReadList_any s _ (by omega)).mono ?_
    rintro e w6 ⟨Aw, nw, cw, rfl, ow6, hnw, b6⟩
    have hw6 := ow6.ints
    obtain rfl : ng = nw := by rw [← hg5.len, ← hw6.len]
    have b6' := below_trans' b5' b6
    have hi6 := hi5.on b6
    have hg6 := hg5.on b6
    clear b5' b6 hi5 hg5 ow6
    go_wp2_with fail
    refine (likeInts_true _ _ _ _ _ _ _ hg6 hw6 hnw).mono ?_
    rintro e w7 ⟨rfl, b7⟩
    have b7' := below_trans' b6' b7
    have hi7 := hi6.on b7
    have hg7 := hg6.on b7
    clear b6' b7 hi6 hg6 hw6
    go_upto_if 63 with (fail)
    go_cut [] (fun wx => Below w7.heap.size w7 wx)
    case first =>
      rcases k0 : (codeL s.data.toList == 0) with _ | _
      · go_wp2_with fail
        go_meet
        exact Below.refl _ _
      · obtain ⟨e1, e2⟩ := text_back (show codeL s.data.toList = 0 by simpa using k0)
        have E1 := Lib.hid e1
        have E2 := Lib.hid e2
        clear e1 e2
        go_wp2_with fail
        refine (listText_any _ _ _ _ _ hg7 (by omega) (HE.out.on b7').2.1).mono ?_
        rw [E1.out, E2.out]
        rintro e w8 ⟨u, rfl, hu, _, b8⟩
        obtain rfl : u = s := text_eq hu
        clear hu
        go_wp2_with fail
        go_meet
        exact b8
    case rest =>
      have b8 := below_trans' b7' hcut
      have hi8 := hi7.on hcut
      clear hcut b7' hi7 hg7
      rcases k0 : (listE xs == 0) with _ | _
      · go_wp2
        go_ret
        exact ⟨rfl, b8⟩
      · obtain ⟨e1, e2⟩ := list_back (show listE xs = 0 by simpa using k0)
        have E1 := Lib.hid e1
        have E2 := Lib.hid e2
        clear e1 e2
        go_wp2_with fail
        refine (readList_any t _ (by omega) (HE.out.on b8)).mono ?_
        have et : t.data.toList = listT xs := HT.out
        rw [et, E1.out, E2.out]
        clear et
        rintro e w9 ⟨Ah, nh, ch, rfl, oh9, hnh, b9⟩
        have hh9 := oh9.ints
        have hi9 := hi8.on b9
        obtain rfl : nh = m := by rw [← hh9.len, ← hi9.len]
        have b9' := below_trans' b8 b9
        clear b8 b9 hi8 oh9
        go_wp2_with fail
        refine (likeInts_true _ _ _ _ _ _ _ hh9 hi9 (by omega)).mono ?_
        rintro e w10 ⟨rfl, b10⟩
        have b10' := below_trans' b9' b10
        go_wp2
        go_ret
        exact ⟨rfl, b10'⟩
  · have d0 : decide (4096 < (n : Int)) = true := by simp; omega
    go_enter Tryd.func3, Tryd.ntmps3
    go_wp2_with fail
    refine (big_any _ _ _ _).mono ?_
    rintro e w' ⟨rfl, rfl⟩
    rw [d0]
    go_wp2
    go_ret
    exact ⟨rfl, Below.refl _ _⟩

end Go.Proofs.YtaekfdgebkdooaaDoor
