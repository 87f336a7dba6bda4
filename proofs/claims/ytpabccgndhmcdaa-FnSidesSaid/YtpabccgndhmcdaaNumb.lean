/- NumberOf of the program and of the model answer alike: contracts and the law's walk. -/
import Derived.Test.YtpabccgndhmcdaaSum
namespace Go.Proofs.Ytpabccgndhmcdaa
open Go.RowKit

def numStep (a d b : Int) : Int := if 1000000000001 < a * b + d then 1000000000001 else a * b + d
def numC (ps : List (Int × Int)) : Int := ps.foldl (fun a p => numStep a p.1 p.2) 0
def digsB (ps : List (Int × Int)) : Bool := ps.all (fun p => inB p.1 0 (p.2 - 1))
def numOk (ds bs : List Int) : Bool := withB 1 100 bs && decide (ds.length = bs.length) && digsB (ds.zip bs)
def numV (ds bs : List Int) : Int := if numOk ds bs then resV (numC (ds.zip bs)) else 0
def numE (ds bs : List Int) : Int := if numOk ds bs then resC (numC (ds.zip bs)) else 2
theorem num_no {ds bs : List Int} (h : withB 1 100 bs = false ∨ ds.length ≠ bs.length ∨ digsB (ds.zip bs) = false) : numV ds bs = 0 ∧ numE ds bs = 2 := by
  have : numOk ds bs = false := by
    unfold numOk
    rcases h with h | h | h
    · simp [h]
    · simp [h]
    · simp [h]
  simp [numV, numE, this]
theorem num_yes {ds bs : List Int} (h : withB 1 100 bs = true) (h2 : ds.length = bs.length) (h3 : digsB (ds.zip bs) = true) : numV ds bs = resV (numC (ds.zip bs)) ∧ numE ds bs = resC (numC (ds.zip bs)) := by
  have : numOk ds bs = true := by simp [numOk, h, h2, h3]
  simp [numV, numE, this]
theorem zip_at {ds bs : List Int} {k : Nat} {d b : Int} (hd : ds[k]? = some d) (hb : bs[k]? = some b) : (ds.zip bs)[k]? = some (d, b) :=
  List.getElem?_zip_eq_some.2 ⟨hd, hb⟩
theorem digs_no {ds bs : List Int} {k : Nat} {d b : Int} (hd : ds[k]? = some d) (hb : bs[k]? = some b) (h : inB d 0 (b - 1) = false) : digsB (ds.zip bs) = false := by
  unfold digsB
  rw [List.all_eq_false]
  exact ⟨(d, b), List.mem_of_getElem? (zip_at hd hb), by simp [h]⟩
theorem digs_step {ds bs : List Int} {k : Nat} {d b : Int} (hd : ds[k]? = some d) (hb : bs[k]? = some b) (hk : digsB ((ds.zip bs).take k) = true) (h : inB d 0 (b - 1) = true) : digsB ((ds.zip bs).take (k + 1)) = true := by
  obtain ⟨hl, e⟩ := List.getElem?_eq_some_iff.1 (zip_at hd hb)
  unfold digsB at *
  rw [List.take_succ_eq_append_getElem hl, List.all_append, hk, e]
  simp [h]
theorem digs_end {ds bs : List Int} {n k : Nat} (hl : ds.length = n) (h : ¬ k < n) : (ds.zip bs).take k = ds.zip bs := List.take_of_length_le (by rw [List.length_zip]; omega)
theorem digs_at {ds bs : List Int} {k : Nat} {d b : Int} (h : digsB (ds.zip bs) = true) (hd : ds[k]? = some d) (hb : bs[k]? = some b) : 0 ≤ d ∧ d ≤ b - 1 := by
  have := List.all_eq_true.1 h (d, b) (List.mem_of_getElem? (zip_at hd hb))
  exact inB_true.1 this
theorem num_step {ds bs : List Int} {k : Nat} {d b : Int} (hd : ds[k]? = some d) (hb : bs[k]? = some b) : numC ((ds.zip bs).take (k + 1)) = numStep (numC ((ds.zip bs).take k)) d b := by
  obtain ⟨hl, e⟩ := List.getElem?_eq_some_iff.1 (zip_at hd hb)
  unfold numC
  rw [List.take_succ_eq_append_getElem hl, List.foldl_append, e]
  rfl
theorem mul_range {a b : Int} (h0 : 0 ≤ a) (h1 : a ≤ 1000000000001) (b0 : 1 ≤ b) (b1 : b ≤ 100) : 0 ≤ a * b ∧ a * b ≤ 100000000000100 := by
  have h2 := Int.mul_nonneg h0 (show 0 ≤ b by omega)
  have h3 := Int.mul_le_mul h1 b1 (by omega) (by omega)
  omega
theorem numStep_range {a d b : Int} (h0 : 0 ≤ a) (h1 : a ≤ 1000000000001) (b0 : 1 ≤ b) (b1 : b ≤ 100) (d0 : 0 ≤ d) : 0 ≤ numStep a d b ∧ numStep a d b ≤ 1000000000001 := by
  have h2 := mul_range h0 h1 b0 b1
  unfold numStep
  split <;> omega
theorem num_range {ds bs : List Int} {n : Nat} (hl : ds.length = n) (hl2 : bs.length = n) (h : digsB (ds.zip bs) = true) (h2 : allIn 1 100 bs = true) (k : Nat) (hk : k ≤ n) : 0 ≤ numC ((ds.zip bs).take k) ∧ numC ((ds.zip bs).take k) ≤ 1000000000001 := by
  induction k with
  | zero => simp [numC]
  | succ k ih =>
    have hd : ds[k]? = some ds[k] := List.getElem?_eq_getElem (by omega)
    have hb : bs[k]? = some bs[k] := List.getElem?_eq_getElem (by omega)
    have i := ih (by omega)
    have r := allIn_at h2 hb
    rw [num_step hd hb]
    exact numStep_range i.1 i.2 r.1 r.2 (digs_at h hd hb).1
/-- the same digits, checked one by one up to k only -/
theorem num_range' {ds bs : List Int} {n : Nat} (hl : ds.length = n) (hl2 : bs.length = n) (h2 : allIn 1 100 bs = true) (k : Nat) (hk : k ≤ n) (h : digsB ((ds.zip bs).take k) = true) : 0 ≤ numC ((ds.zip bs).take k) ∧ numC ((ds.zip bs).take k) ≤ 1000000000001 := by
  induction k with
  | zero => simp [numC]
  | succ k ih =>
    have hd : ds[k]? = some ds[k] := List.getElem?_eq_getElem (by omega)
    have hb : bs[k]? = some bs[k] := List.getElem?_eq_getElem (by omega)
    obtain ⟨hz, e⟩ := List.getElem?_eq_some_iff.1 (zip_at hd hb)
    have h3 : digsB ((ds.zip bs).take k) = true ∧ inB ds[k] 0 (bs[k] - 1) = true := by
      unfold digsB at *
      rw [List.take_succ_eq_append_getElem hz, List.all_append, e] at h
      simpa using h
    have i := ih (by omega) h3.1
    have r := allIn_at h2 hb
    rw [num_step hd hb]
    exact numStep_range i.1 i.2 r.1 r.2 (inB_true.1 h3.2).1
theorem numStep_min (a d b : Int) : (if 1000000000001 < a * b + d then (1000000000001 : Int) else a * b + d) = numStep a d b := rfl
theorem numStep_cut {a d b : Int} (d0 : 0 ≤ d) : (if capM a b + d < 1000000000001 then capM a b + d else 1000000000001) = numStep a d b := by
  unfold numStep capM
  split <;> split <;> (try split) <;> omega

end Go.Proofs.Ytpabccgndhmcdaa
