/- The reference's plain names. -/
import Derived.Test.YtdchnjijdkgfhaaGreatDoorRefKind
namespace Lx
theorem kind_next {l : List B} {k : Int} (h : kind l = k) (h0 : k ≠ 0) : ∃ n j, next l = .tok k n j ∧ l.length ≤ j := by
  unfold kind whole at h
  cases hn : next l with
  | err x => rw [hn] at h; exact absurd h.symm h0
  | tok k' n j =>
    rw [hn] at h
    simp only at h
    by_cases hj : l.length ≤ j
    · rw [if_pos hj] at h
      have h : k' = k := h
      exact ⟨n, j, by rw [h], hj⟩
    · rw [if_neg hj] at h
      exact absurd h.symm h0
theorem nextVar_kind {l : List B} {k n : Int} {j : Nat} (h : nextVar l = .tok k n j) : k = 4 := by
  unfold nextVar at h
  simp only at h
  split at h
  · cases h
  · cases h; rfl
theorem plain_kind2 {l : List B} (h : kind l = 2 ∨ kind l = 3) : peek l 0 ≠ 39 := by
  intro e
  have h0 : kind l ≠ 0 := by rcases h with h | h <;> (rw [h]; decide)
  obtain ⟨n, j, hn, _⟩ := kind_next rfl h0
  by_cases hs : small (peek l 1) = true
  · rw [next_var (by rw [e]; decide) e hs] at hn
    have := nextVar_kind hn
    rcases h with h | h <;> (rw [h] at this; exact absurd this (by decide))
  · rw [next_sign (by rw [e]; decide) (fun x => hs x.2) (by rw [e]; decide), if_neg (by rw [e]; rintro ⟨x, _⟩; exact absurd x (by decide)), if_neg (by rw [e]; decide)] at hn
    cases hn
theorem var_no_quote {l : List B} (h : kind l = 4) : (l.drop 1).contains 39 = false := by
  obtain ⟨n, j, hn, hj⟩ := kind_next h (by decide)
  have key : next l = nextVar l := by
    by_cases ha : (small (peek l 0) || capital (peek l 0)) = true
    · rw [next_name ha] at hn
      unfold nextName at hn
      simp only at hn
      split at hn
      · cases hn
      · split at hn
        · cases hn
        · split at hn <;> cases hn
    · have ha' : (small (peek l 0) || capital (peek l 0)) = false := by simpa using ha
      by_cases hb : peek l 0 = 39 ∧ small (peek l 1) = true
      · exact next_var ha' hb.1 hb.2
      · by_cases hc : peek l 0 = 126 ∨ digit (peek l 0) = true
        · rw [next_num ha' hb hc] at hn
          unfold nextNum at hn
          simp only at hn
          split at hn
          · cases hn
          · split at hn <;> cases hn
        · rw [next_sign ha' hb hc] at hn
          split at hn
          · cases hn
          · split at hn <;> cases hn
  rw [key] at hn
  have hl := (nextVar_len hn).1
  have hd : (l.drop 1).length ≤ span part (l.drop 1) := by rw [List.length_drop]; omega
  rw [Bool.eq_false_iff]
  intro e
  rw [List.contains_iff_mem] at e
  obtain ⟨i, hi, e⟩ := List.mem_iff_getElem.1 e
  have := span_all (p := part) (l := l.drop 1) (i := i) (by omega)
  rw [show peek (l.drop 1) i = 39 from by unfold peek; rw [List.getD_eq_getElem?_getD, List.getElem?_eq_getElem hi, e]; rfl] at this
  exact absurd this (by decide)
end Lx
namespace Go.Proofs.YtdchnjijdkgfhaaGreatDoor
open Go.RowKit
end Go.Proofs.YtdchnjijdkgfhaaGreatDoor
