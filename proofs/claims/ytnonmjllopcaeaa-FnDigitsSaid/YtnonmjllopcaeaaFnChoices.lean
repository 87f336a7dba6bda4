/- The law of choices: its walk. -/
import Derived.Test.YtnonmjllopcaeaaDrawRise
import Derived.Test.YtnonmjllopcaeaaFnMath
import Derived.Test.YtnonmjllopcaeaaChoose2
import Derived.Test.YtnonmjllopcaeaaRise
import Derived.OpenShut
namespace Go.Proofs.Ytnonmjllopcaeaa
open Go.RowKit

/-- a slice of bytes as the shell of a row hands it over -/
theorem bts_of {w : World} {a : Option Addr} {len cap : Nat} {zs : List Int}
    (h : (a = none ∧ len = 0 ∧ cap = 0 ∧ zs = []) ∨ ∃ x, a = some x ∧ len ≤ cap ∧ cap ≤ maxLen ∧ zs.length = cap ∧ (∀ i, i < zs.length → w.cell? (x.add i) = some (.int .u8 (zs.getD i 0))) ∧ ∀ n ∈ zs, (Lit.int .u8 n).wf = true) :
    Bts w w.heap.size a len := by
  rcases h with ⟨rfl, rfl, rfl, rfl⟩ | ⟨x, rfl, hl, _, hz, hc, hw⟩
  · exact fun h => absurd h (by omega)
  · intro h0
    refine ⟨x, rfl, ?_, fun j hj => ?_⟩
    · have := World.block_lt_of_cell? _ _ (hc 0 (by omega))
      rwa [block_of_add] at this
    · obtain ⟨b0, b1⟩ := bounds_u8 (hw (zs.getD j 0) (by rw [List.getD_eq_getElem?_getD, List.getElem?_eq_getElem (by omega)]; exact List.getElem_mem _))
      exact ⟨_, b0, b1, hc j (by omega)⟩

theorem big_any (A : Option Addr) (n c : Nat) (w : World) :
    Calls Try.prog 6 #[.slice A n c] w fun e w' => e = .returned (.bool (decide (4096 < (n : Int)))) ∧ w = w' := by
  go_enter Try.func6, Try.ntmps6
  go_wp2
  go_ret
  exact ⟨rfl, rfl⟩

set_option maxHeartbeats 2000000 in
theorem fnChoices_any (A : Option Addr) (n c : Nat) (w : World) (h : Bts w w.heap.size A n) :
    Calls Try.prog 4 #[.slice A n c] w fun e w' => e = .returned (.bool true) ∧ Below w.heap.size w w' := by
  by_cases hn : n ≤ 4096
  · have d0 : decide (4096 < (n : Int)) = false := by simp; omega
    have HB := Lib.hid h
    clear h
    go_enter Try.func4, Try.ntmps4
    go_wp2_with fail
    refine (big_any _ _ _ _).mono ?_
    rintro e w' ⟨rfl, rfl⟩
    rw [d0]
    clear d0
    go_wp2_with fail
    refine (drawChoose_any w.heap.size A n c w HB.out (Nat.le_refl _) hn).mono ?_
    rintro e w1 ⟨x, y, rfl, x0, x1, y0, y1, b1⟩
    have HB1 := Lib.hid (HB.out.keep (w' := w1) (fun p hp => b1.cell hp))
    have s1 := b1.size
    clear HB
    go_wp2_with fail
    refine (chooseOf_any _ _ _).mono ?_
    rintro e w' ⟨rfl, rfl⟩
    go_wp2_with fail
    refine (specChooseOf_any _ _ _).mono ?_
    rintro e w2 ⟨rfl, b2⟩
    have HB2 := Lib.hid (HB1.out.keep (w' := w2) (fun p hp => b2.cell (by omega)))
    have b2' := below_trans' b1 b2
    have s2 := b2'.size
    clear b1 b2 HB1 s1
    go_wp2_with fail
    refine (drawRise_any w.heap.size A n c w2 HB2.out s2 hn).mono ?_
    rintro e w3 ⟨D, m, d, xs, v, rfl, hx, hm, v0, v1, b3⟩
    have b3' := below_trans' b2' b3
    clear b2' b3 HB2 s2
    go_wp2_with fail
    refine (isRising_any _ _ _ xs _ _ hx (by omega)).mono ?_
    rintro e w' ⟨rfl, rfl⟩
    go_wp2_with fail
    refine (specIsRising_any _ _ _ xs _ _ hx (by omega)).mono ?_
    rintro e w4 ⟨rfl, b4⟩
    have b4' := Lib.hid (below_trans' b3' b4)
    clear b3' b4 hx
    by_cases hE : chE x y = 0
    · by_cases hk0 : y = 0
      · have hV := ch_edge hE (.inl hk0)
        have k0 : (y == 0) = true := by simpa using hk0
        clear hk0
        go_wp2
        go_ret
        exact ⟨rfl, b4'.out⟩
      · by_cases hkx : y = x
        · have hV := ch_edge hE (.inr hkx)
          have k0 : (y == 0) = false := by simpa using hk0
          have k1 : (y == x) = true := by simpa using hkx
          clear hk0 hkx
          go_wp2
          go_ret
          exact ⟨rfl, b4'.out⟩
        · obtain ⟨m1, m2, m3, m4, m5, m6, m7, m8, m9, n1, n2, n3, n4⟩ := ch_mid hE hk0 hkx
          have k0 : (y == 0) = false := by simpa using hk0
          have k1 : (y == x) = false := by simpa using hkx
          have M3 := Lib.hid m3
          clear hk0 hkx m3
          go_wp2_with fail
          refine (chooseOf_any _ _ _).mono ?_
          rintro e w' ⟨rfl, rfl⟩
          go_wp2_with fail
          refine (chooseOf_any _ _ _).mono ?_
          rintro e w' ⟨rfl, rfl⟩
          go_wp2_with fail
          refine (chooseOf_any _ _ _).mono ?_
          rintro e w' ⟨rfl, rfl⟩
          have m3 := M3.out
          go_wp2
          go_ret
          exact ⟨rfl, b4'.out⟩
    · have k0 : (chE x y == 0) = false := by simpa using hE
      have k1 : (chE x y != 0) = true := by simpa using hE
      clear hE
      go_wp2
      go_ret
      exact ⟨rfl, b4'.out⟩
  · have d0 : decide (4096 < (n : Int)) = true := by simp; omega
    go_enter Try.func4, Try.ntmps4
    go_wp2_with fail
    refine (big_any _ _ _ _).mono ?_
    rintro e w' ⟨rfl, rfl⟩
    rw [d0]
    go_wp2
    go_ret
    exact ⟨rfl, Below.refl _ _⟩

end Go.Proofs.Ytnonmjllopcaeaa
