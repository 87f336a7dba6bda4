/- Plain mathematics of ChooseOf: rows of sums, cut at the limit; the quotients of the program; that they agree up to 60 is reckoned by the kernel. -/
import Derived.Test.YtnonmjllopcaeaaMath
namespace Go.Proofs.Ytnonmjllopcaeaa

def cut1 (x : Int) : Int := if x < 1000000000001 then x else 1000000000001
def mids (row : List Int) (m : Nat) : List Int := (List.range m).map (fun j => cut1 (row.getD j 0 + row.getD (j + 1) 0))
def prow : Nat → List Int
  | 0 => [1]
  | i + 1 => (1 :: mids (prow i) i) ++ [1]
def seqN (l : Nat) : Nat → Nat
  | 0 => 1
  | i + 1 => seqN l i * (l + (i + 1)) / (i + 1)
def chooseN (n k : Nat) : Nat := if k ≤ n - k then seqN (n - k) k else seqN k (n - k)

theorem prow_len (i : Nat) : (prow i).length = i + 1 := by
  cases i with
  | zero => rfl
  | succ i => simp [prow, mids]
theorem mids_len (row : List Int) (m : Nat) : (mids row m).length = m := by simp [mids]
theorem mids_snoc (row : List Int) (m : Nat) : mids row (m + 1) = mids row m ++ [cut1 (row.getD m 0 + row.getD (m + 1) 0)] := by
  unfold mids
  rw [List.range_succ, List.map_append]
  rfl
theorem cut1_range {x : Int} (h : 0 ≤ x) : 0 ≤ cut1 x ∧ cut1 x ≤ 1000000000001 := by
  unfold cut1; split <;> omega
theorem prow_range (i : Nat) : ∀ v ∈ prow i, 0 ≤ v ∧ v ≤ 1000000000001 := by
  induction i with
  | zero => intro v hv; simp [prow] at hv; omega
  | succ i ih =>
    have get : ∀ j, 0 ≤ (prow i).getD j 0 := fun j => by
      rw [List.getD_eq_getElem?_getD]
      rcases h : (prow i)[j]? with _ | u
      · simp
      · exact (ih u (List.mem_of_getElem? h)).1
    intro v hv
    unfold prow at hv
    simp only [List.mem_append, List.mem_cons, List.mem_nil_iff, or_false] at hv
    rcases hv with (rfl | hv) | rfl
    · omega
    · unfold mids at hv
      rw [List.mem_map] at hv
      obtain ⟨j, _, rfl⟩ := hv
      exact cut1_range (Int.add_nonneg (get _) (get _))
    · omega

def chooseGood (n : Nat) : Bool := (List.range (n + 1)).all (fun k => (prow n).getD k 0 == cut1 (chooseN n k))
def seqGood (n : Nat) : Bool := (List.range (n + 1)).all (fun k => decide (n - k < k) || (List.range k).all (fun i => decide (seqN (n - k) i * (n - k + (i + 1)) < 4611686018427387904)))
theorem choose_all : (List.range 61).all chooseGood = true := by decide +kernel
theorem seq_all : (List.range 61).all seqGood = true := by decide +kernel

theorem choose_row {n k : Nat} (hn : n ≤ 60) (hk : k ≤ n) : (prow n).getD k 0 = cut1 (chooseN n k) := by
  have h := List.all_eq_true.1 choose_all n (List.mem_range.2 (by omega))
  have h2 := List.all_eq_true.1 h k (List.mem_range.2 (by omega))
  simpa using h2
theorem seq_small {l s i : Nat} (hn : l + s ≤ 60) (hs : s ≤ l) (hi : i < s) : seqN l i * (l + (i + 1)) < 4611686018427387904 := by
  have h := List.all_eq_true.1 seq_all (l + s) (List.mem_range.2 (by omega))
  have h2 := List.all_eq_true.1 h s (List.mem_range.2 (by omega))
  rw [Nat.add_sub_cancel] at h2
  rw [Bool.or_eq_true] at h2
  rcases h2 with h2 | h2
  · have := of_decide_eq_true h2; omega
  · exact of_decide_eq_true (List.all_eq_true.1 h2 i (List.mem_range.2 hi))
theorem resV_cut (x : Int) : resV (cut1 x) = resV x := by
  unfold resV cut1; split <;> (try split) <;> omega
theorem resC_cut (x : Int) : resC (cut1 x) = resC x := by
  unfold resC cut1; split <;> (try split) <;> omega

end Go.Proofs.Ytnonmjllopcaeaa
