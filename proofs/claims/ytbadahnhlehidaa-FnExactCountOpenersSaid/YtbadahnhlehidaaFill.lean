/- fillKey of the program. -/
import Derived.Test.YtbadahnhlehidaaMay
import Derived.Test.YtbadahnhlehidaaRow
import Derived.Deep.RegionHeld3
namespace Go.Proofs.Ytbadahnhlehidaa
open Go.RowKit

theorem grown_below {a w w' : World} {row : Option Nat} (h : a.grownBy w row) (hb : Below w.heap.size w w') : a.grownBy w' row :=
  ⟨hb.os.trans h.os, hb.tape.trans h.tape, hb.output.trans h.output, Nat.le_trans h.size hb.size, fun i hi hn => (hb.block i (Nat.lt_of_lt_of_le hi h.size)).trans (h.block i hi hn)⟩
theorem grown_then {a b c : World} {row : Option Nat} (h : a.grownBy b row) (k : b.grownBy c row) : a.grownBy c row :=
  ⟨k.os.trans h.os, k.tape.trans h.tape, k.output.trans h.output, Nat.le_trans h.size k.size, fun i hi hn => (k.block i (Nat.lt_of_lt_of_le hi h.size) hn).trans (h.block i hi hn)⟩
theorem grown_dn {a w : World} {row : Option Nat} (h : a.grownBy w row) (n : Nat) : a.grownBy (w.drewN n) row := ⟨h.os, h.tape, h.output, h.size, h.block⟩
theorem Own.dn {w : World} {lo hi n : Nat} {A : Option Addr} {xs : List Int} (h : Own w lo hi A n xs) (k : Nat) : Own (w.drewN k) lo hi A n xs := h
theorem Own.put {w : World} {lo hi n : Nat} {ad : Addr} {xs : List Int} {j : Nat} (v : Int) (h : Own w lo hi (some ad) n xs) (hj : j < n) : Own (w.setCell (ad.add j) (.int .i64 v)) lo hi (some ad) n (xs.set j v) := by
  refine ⟨by rw [List.length_set, h.len], by simpa [World.setCell] using h.2.1, fun hn => ?_⟩
  obtain ⟨ad', e, h1, h2, hc⟩ := h.2.2 hn
  obtain rfl : ad = ad' := by injection e
  refine ⟨ad, rfl, h1, h2, fun i u hu => ?_⟩
  by_cases e : i = j
  · subst e
    obtain ⟨_, v', e', _, _, _, hf, hcell⟩ := h.at_ hj
    injection e' with e'
    subst e'
    rw [List.getElem?_set_self (by rw [h.len]; exact hj)] at hu
    obtain rfl : v = u := by injection hu
    exact ⟨by rw [World.frozen?_setCell]; exact hf, World.cell?_setCell_same _ _ _ hcell⟩
  · rw [List.getElem?_set_ne (Ne.symm e)] at hu
    rw [World.frozen?_setCell, World.cell?_setCell_other _ _ _ _ (add_ne ad (Ne.symm e))]
    exact hc i u hu
theorem take_set {xs : List Int} {j : Nat} {v : Int} (hj : j < xs.length) : (xs.set j v).take (j + 1) = xs.take j ++ [v] := by
  rw [List.take_succ_eq_append_getElem (by rw [List.length_set]; exact hj), List.getElem_set_self, List.take_set_of_le (Nat.le_refl _)]
theorem take_set' {xs : List Int} {j : Nat} {v : Int} : (xs.set j v).take j = xs.take j := List.take_set_of_le (Nat.le_refl _)

/-- what fillKey answers: T are the keys that it looks for the first of -/
def Filled (w : World) (lo hi : Nat) (ad : Addr) (n ch : Nat) (ys : List Int) (T : List (List Int)) (e : Ending) (w' : World) : Prop :=
  ∃ (ok : Bool) (zs : List Int), e = .returned (.bool ok) ∧ Own w' lo hi (some ad) n zs ∧ w.grownBy w' (some ad.block) ∧ zs.take ch = ys.take ch ∧ ((ok = true ∧ T.head? = some zs) ∨ (ok = false ∧ T = []))
/-- fillKey's contract where k chambers follow -/
def FillOk (m : Mk) (lo hi n c : Nat) (ad : Addr) (k : Nat) : Prop :=
  ∀ (ch least : Nat) (ys : List Int) (w : World), ch + 1 + k = n → Own w lo hi (some ad) n ys → allIn 0 (m.D - 1) (ys.take ch) = true → least ≤ 8 →
    Calls Try.prog 125 #[.agg #[.int .i64 m.C, .int .i64 m.D, .int .i64 m.S, .int .i64 m.M, .int .i64 m.L], .slice (some ad) n c, .int .i64 (ch : Int), .int .i64 (least : Int)] w
      (Filled w lo hi ad n ch ys (tails m k (ys.take ch) least))
theorem depth_snoc {m : Mk} {xs : List Int} {d : Nat} (h : allIn 0 (m.D - 1) xs = true) (hd : (d : Int) < m.D) : allIn 0 (m.D - 1) (xs ++ [(d : Int)]) = true := by
  unfold allIn at *
  rw [List.all_append, h]
  simp [inB]; omega

set_option maxRecDepth 100000 in
set_option maxHeartbeats 4000000 in
theorem fillKey_step (m : Mk) (hm : m.ok = true) (lo hi n c : Nat) (ad : Addr) (hnC : (n : Int) = m.C) (hc0 : n ≤ c) (k : Nat) (IH : ∀ j, k = j + 1 → FillOk m lo hi n c ad j) : FillOk m lo hi n c ad k := by
  intro ch least ys w hch ho hpre hleast
  obtain ⟨m1, m2, m3, m4, m5, m6, m7, m8, m9, m10, m11⟩ := Mk.ok_true hm
  have HM := Lib.hid hm
  have HC := Lib.hid hch
  have HN := Lib.hid hnC
  have hn6 : n ≤ 6 := by omega
  have hchn : ch < n := by omega
  have HP := Lib.hid hpre
  have HI := Lib.hid IH
  clear hm hch hnC hpre IH
  obtain ⟨_, _, e0, hlo, hhi, _, _, _⟩ := ho.at_ hchn
  obtain rfl := (by injection e0 : ad = _)
  clear e0
  have hsz := ho.size
  have hx := Lib.hid (Boxed.new w 29 m)
  have HG0 := Lib.hid (show w.grownBy (w.alloc (.cells #[.int .i64 m.C, .int .i64 m.D, .int .i64 m.S, .int .i64 m.M, .int .i64 m.L] 29)) (some ad.block) from grown_below (World.grownBy.refl w _) ((Below.refl _ _).alloc (Nat.le_refl _) _))
  have HO0 := Lib.hid (ho.below ((Below.refl w.heap.size w).alloc (Nat.le_refl _) (.cells #[.int .i64 m.C, .int .i64 m.D, .int .i64 m.S, .int .i64 m.M, .int .i64 m.L] 29)))
  have HY := Lib.hid ho.len
  clear ho
  generalize hT : tails m k (ys.take ch) least = T
  have HT := Lib.hid hT
  clear hT
  go_enter Try.func125, Try.ntmps125
  go_wp2
  go_loopw [9] (fun x wr => ∃ (d : Nat) (zs : List Int), x = .int .i64 d ∧ d ≤ 8 ∧ Own wr lo hi (some ad) n zs ∧ Hid (zs.take ch = ys.take ch) ∧ Hid (T.head? = (tails m k (ys.take ch) d).head?) ∧ Boxed wr w.heap.size 29 m ∧ w.grownBy wr (some ad.block)) (fun x _ => 9 - (intOf x).toNat)
  case atStart => exact ⟨least, ys, rfl, hleast, HO0.out, Lib.hid rfl, Lib.hid (by rw [HT.out]), hx.out, HG0.out⟩
  case round =>
    obtain ⟨d, zs, rfl, hd8, hown, hpz, hall, hbox, hgr⟩ := hrel
    obtain ⟨q0, q1, q2, q3, q4⟩ := hbox.cells
    have hgs := hgr.size
    by_cases hlt : (d : Int) < m.D
    · obtain ⟨_, v, e0, _, _, hv, hf, hcell⟩ := hown.at_ hchn
      obtain rfl := (by injection e0 : ad = _)
      clear e0 hv
      have HO := Lib.hid (hown.put (d : Int) hchn)
      have HZ := Lib.hid hown.len
      have HB := Lib.hid (hbox.grown (grown_set (p := ad.add ch) (World.grownBy.refl wr (some ad.block)) (block_of_add ad ch) (.int .i64 (d : Int))) (by intro e; injection e with e; omega))
      have HG := Lib.hid (grown_set hgr (p := ad.add ch) (block_of_add ad ch) (.int .i64 (d : Int)))
      have HPD : Hid ((zs.set ch (d : Int)).take (ch + 1) = ys.take ch ++ [(d : Int)]) := Lib.hid (by rw [take_set (by rw [HZ.out]; exact hchn), hpz.out])
      have HD := Lib.hid (depth_snoc HP.out hlt)
      have hlen : Hid (((ys.take ch ++ [(d : Int)]).length : Int) + k = m.C) := Lib.hid (by
        have := HC.out; have := HN.out; have := HY.out
        rw [List.length_append, List.length_take]; simp; omega)
      have hdD : d < m.D.toNat := by omega
      have HS := Lib.hid (tails_step (m := m) (k := k) (xs := ys.take ch) hdD)
      have hne : ∀ i : Nat, ad.add ch ≠ ⟨w.heap.size, i, none⟩ := fun i e => by have := congrArg Addr.block e; rw [block_of_add] at this; simp at this; omega
      have p0 := (World.cell?_setCell_other wr (ad.add ch) ⟨w.heap.size, 0, none⟩ (.int .i64 (d : Int)) (hne 0)).trans q0
      have p1 := (World.cell?_setCell_other wr (ad.add ch) ⟨w.heap.size, 1, none⟩ (.int .i64 (d : Int)) (hne 1)).trans q1
      have p2 := (World.cell?_setCell_other wr (ad.add ch) ⟨w.heap.size, 2, none⟩ (.int .i64 (d : Int)) (hne 2)).trans q2
      have p3 := (World.cell?_setCell_other wr (ad.add ch) ⟨w.heap.size, 3, none⟩ (.int .i64 (d : Int)) (hne 3)).trans q3
      have p4 := (World.cell?_setCell_other wr (ad.add ch) ⟨w.heap.size, 4, none⟩ (.int .i64 (d : Int)) (hne 4)).trans q4
      have hlw : w.heap.size < (wr.setCell (ad.add ch) (.int .i64 (d : Int))).heap.size := HB.out.lt
      have HF := Lib.hid (HO.out.ints.front (show ch + 1 ≤ n by omega))
      clear hown hbox hgr hne
      have s1 : IntKind.i64.wrap ((ch : Int) + 1) = (ch : Int) + 1 := IntWalk.i64_in _ (by omega)
      have s2 : 0 ≤ (ch : Int) + 1 := by omega
      have s3 : ((ch : Int) + 1).toNat = ch + 1 := by omega
      have s4 : (ch : Int) + 1 ≤ (c : Int) := by omega
      have i0 : (0 : Int) ≤ (ch : Int) := by omega
      have i1 : (ch : Int) < (n : Int) := by omega
      rcases hmay : mayB m (ys.take ch ++ [(d : Int)]) with _ | _
      · have HK := Lib.hid (keys_may hlen.out HD.out hmay)
        have HMY := Lib.hid hmay
        clear hmay
        go_wp2
        go_region_held3 (fun w' => w'.cell? ⟨w.heap.size, 0, none⟩ = some (.int .i64 m.C) ∧ w'.cell? ⟨w.heap.size, 1, none⟩ = some (.int .i64 m.D) ∧ w'.cell? ⟨w.heap.size, 2, none⟩ = some (.int .i64 m.S) ∧ w'.cell? ⟨w.heap.size, 3, none⟩ = some (.int .i64 m.M) ∧ w'.cell? ⟨w.heap.size, 4, none⟩ = some (.int .i64 m.L))
          (first | go_keep | exact ⟨(b1.cell (p := ⟨w.heap.size, 0, none⟩) hlw).trans p0, (b1.cell (p := ⟨w.heap.size, 1, none⟩) hlw).trans p1, (b1.cell (p := ⟨w.heap.size, 2, none⟩) hlw).trans p2, (b1.cell (p := ⟨w.heap.size, 3, none⟩) hlw).trans p3, (b1.cell (p := ⟨w.heap.size, 4, none⟩) hlw).trans p4⟩)
          (first | (go_at_call 143; refine (mayBegin_any m _ _ _ ((zs.set ch (d : Int)).take (ch + 1)) _ (ints_drewN HF.out 1) (by omega) HM.out).mono ?_; rw [HPD.out, HMY.out]; rintro e w1 ⟨rfl, b1⟩))
        have X1 := Lib.hid ((HB.out.drewN 1).on b1)
        have O1 := Lib.hid ((HO.out.dn 1).below b1)
        have G1 := Lib.hid (grown_below (grown_dn HG.out 1) b1)
        clear s1 s2 s3 s4 q0 q1 q2 q3 q4 p0 p1 p2 p3 p4 b1 hcell hf
        go_wp2
        go_roundw
        case rel => exact ⟨d + 1, zs.set ch (d : Int), by go_num, by omega, O1.out, Lib.hid (by rw [take_set']; exact hpz.out), Lib.hid (by rw [hall.out, HS.out, HK.out]; rfl), X1.out, G1.out⟩
        case measure => simp [intOf]; omega
      · have HBG := Lib.hid (may_begins hmay)
        have HMY := Lib.hid hmay
        clear hmay
        rcases k with _ | j
        · have htest : ((ch : Int) == m.C - 1) = true := by have := HC.out; have := HN.out; simp; omega
          have HK : Hid (keysFrom m 0 (ys.take ch ++ [(d : Int)]) = [ys.take ch ++ [(d : Int)]]) := Lib.hid (keys_zero_yes HBG.out.1 (by have := HBG.out.2; have := hlen.out; omega))
          go_wp2
          go_region_held3 (fun w' => w'.cell? ⟨w.heap.size, 0, none⟩ = some (.int .i64 m.C) ∧ w'.cell? ⟨w.heap.size, 1, none⟩ = some (.int .i64 m.D) ∧ w'.cell? ⟨w.heap.size, 2, none⟩ = some (.int .i64 m.S) ∧ w'.cell? ⟨w.heap.size, 3, none⟩ = some (.int .i64 m.M) ∧ w'.cell? ⟨w.heap.size, 4, none⟩ = some (.int .i64 m.L))
            (first | go_keep | exact ⟨(b1.cell (p := ⟨w.heap.size, 0, none⟩) hlw).trans p0, (b1.cell (p := ⟨w.heap.size, 1, none⟩) hlw).trans p1, (b1.cell (p := ⟨w.heap.size, 2, none⟩) hlw).trans p2, (b1.cell (p := ⟨w.heap.size, 3, none⟩) hlw).trans p3, (b1.cell (p := ⟨w.heap.size, 4, none⟩) hlw).trans p4⟩)
            (first | (go_at_call 143; refine (mayBegin_any m _ _ _ ((zs.set ch (d : Int)).take (ch + 1)) _ (ints_drewN HF.out 1) (by omega) HM.out).mono ?_; rw [HPD.out, HMY.out]; rintro e w1 ⟨rfl, b1⟩))
          have X1 := Lib.hid ((HB.out.drewN 1).on b1)
          have O1 := Lib.hid ((HO.out.dn 1).below b1)
          have G1 := Lib.hid (grown_below (grown_dn HG.out 1) b1)
          clear s1 s2 s3 s4 q0 q1 q2 q3 q4 p0 p1 p2 p3 p4 b1 hcell hf
          obtain ⟨q0, q1, q2, q3, q4⟩ := X1.out.cells
          go_wp2
          go_ret
          refine ⟨true, zs.set ch (d : Int), rfl, O1.out, G1.out, by rw [take_set']; exact hpz.out, .inl ⟨rfl, ?_⟩⟩
          rw [hall.out, HS.out, HK.out, ← HPD.out, List.take_of_length_le (by rw [List.length_set, HZ.out]; have := HC.out; omega)]
          rfl
        · have htest : ((ch : Int) == m.C - 1) = false := by have := HC.out; have := HN.out; simp; omega
          have HK : Hid (keysFrom m (j + 1) (ys.take ch ++ [(d : Int)]) = tails m j (ys.take ch ++ [(d : Int)]) 0) := Lib.hid (keys_succ HBG.out.1)
          go_wp2
          go_region_held3 (fun w' => w'.cell? ⟨w.heap.size, 0, none⟩ = some (.int .i64 m.C) ∧ w'.cell? ⟨w.heap.size, 1, none⟩ = some (.int .i64 m.D) ∧ w'.cell? ⟨w.heap.size, 2, none⟩ = some (.int .i64 m.S) ∧ w'.cell? ⟨w.heap.size, 3, none⟩ = some (.int .i64 m.M) ∧ w'.cell? ⟨w.heap.size, 4, none⟩ = some (.int .i64 m.L))
            (first | go_keep | exact ⟨(b1.cell (p := ⟨w.heap.size, 0, none⟩) hlw).trans p0, (b1.cell (p := ⟨w.heap.size, 1, none⟩) hlw).trans p1, (b1.cell (p := ⟨w.heap.size, 2, none⟩) hlw).trans p2, (b1.cell (p := ⟨w.heap.size, 3, none⟩) hlw).trans p3, (b1.cell (p := ⟨w.heap.size, 4, none⟩) hlw).trans p4⟩)
            (first | (go_at_call 143; refine (mayBegin_any m _ _ _ ((zs.set ch (d : Int)).take (ch + 1)) _ (ints_drewN HF.out 1) (by omega) HM.out).mono ?_; rw [HPD.out, HMY.out]; rintro e w1 ⟨rfl, b1⟩))
          have X1 := Lib.hid ((HB.out.drewN 1).on b1)
          have O1 := Lib.hid ((HO.out.dn 1).below b1)
          have G1 := Lib.hid (grown_below (grown_dn HG.out 1) b1)
          clear s1 s2 s3 s4 q0 q1 q2 q3 q4 p0 p1 p2 p3 p4 b1 hcell hf
          obtain ⟨q0, q1, q2, q3, q4⟩ := X1.out.cells
          go_wp2_with fail
          clear q0 q1 q2 q3 q4
          have h1 := HI.out j rfl (ch + 1) 0 (zs.set ch (d : Int)) w1 (by have := HC.out; omega) O1.out (by rw [HPD.out]; exact HD.out) (by omega)
          rw [HPD.out, ← HK.out, show ((ch + 1 : Nat) : Int) = (ch : Int) + 1 by omega] at h1
          refine h1.mono ?_
          rintro e w2 ⟨ok, vs, rfl, o2, g2, p2, h2⟩
          clear h1
          have G2 := Lib.hid (grown_then G1.out g2)
          have O2 := Lib.hid o2
          have X2 := Lib.hid (X1.out.grown g2 (by intro e; injection e with e; omega))
          have P2 : Hid (vs.take ch = ys.take ch) := Lib.hid (by
            have := congrArg (List.take ch) p2
            rw [List.take_take, Nat.min_eq_left (by omega), List.take_take, Nat.min_eq_left (by omega), take_set'] at this
            rw [this]; exact hpz.out)
          clear o2 g2 p2
          rcases h2 with ⟨rfl, h2⟩ | ⟨rfl, h2⟩
          · have H2 := Lib.hid h2
            clear h2
            go_wp2
            go_ret
            refine ⟨true, vs, rfl, O2.out, G2.out, P2.out, .inl ⟨rfl, ?_⟩⟩
            rw [hall.out, HS.out, List.head?_append, H2.out]
            rfl
          · have H2 := Lib.hid h2
            clear h2
            go_wp2
            go_roundw
            case rel => exact ⟨d + 1, vs, by go_num, by omega, O2.out, P2, Lib.hid (by rw [hall.out, HS.out, H2.out]; rfl), X2.out, G2.out⟩
            case measure => simp [intOf]; omega
    · have HE : Hid (T = []) := Lib.hid (by
        have h1 := hall.out
        rw [tails_end (m := m) (k := k) (xs := ys.take ch) (d := d) (by omega)] at h1
        exact List.head?_eq_none_iff.1 h1)
      clear hall
      go_wp2
      go_ret
      exact ⟨false, zs, rfl, hown, hgr, hpz.out, .inr ⟨rfl, HE.out⟩⟩

theorem fillKey_any (m : Mk) (hm : m.ok = true) (lo hi n c : Nat) (ad : Addr) (hnC : (n : Int) = m.C) (hc0 : n ≤ c) : ∀ k, FillOk m lo hi n c ad k
  | 0 => fillKey_step m hm lo hi n c ad hnC hc0 0 (fun j h => by omega)
  | k + 1 => fillKey_step m hm lo hi n c ad hnC hc0 (k + 1) (fun j h => by
    have e : k = j := by omega
    subst e
    exact fillKey_any m hm lo hi n c ad hnC hc0 k)

end Go.Proofs.Ytbadahnhlehidaa
