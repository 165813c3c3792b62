/- Lines and columns, byte by byte; and an index that has a line and a column is the only one. No program stands here. -/
import Derived.Test.YtpbppmphcnhlcaaDoorLinesPure
namespace Lx
open Go.Lib

theorem last_snoc (x : List B) {c : B} (hc : c ≠ 10) : lastIndex (x ++ [c]) [10] = lastIndex x [10] := by
  have at_ : ∀ j : Nat, (x ++ [c])[j]? = some 10 ↔ x[j]? = some 10 := fun j => by
    rcases Nat.lt_trichotomy j x.length with h | h | h
    · rw [List.getElem?_append_left h]
    · subst h
      rw [List.getElem?_append_right (Nat.le_refl _)]
      simp [hc]
    · rw [List.getElem?_append_right (by omega), List.getElem?_eq_none (by simp; omega), List.getElem?_eq_none (by omega)]
  refine last_unique (last_is _) ?_
  rcases last_is x with ⟨e, hn⟩ | ⟨i, e, h, hn⟩
  · exact .inl ⟨e, fun j e' => hn j ((at_ j).1 e')⟩
  · exact .inr ⟨i, e, (at_ i).2 h, fun j hj e' => hn j hj ((at_ j).1 e')⟩

theorem line_zero (l : List B) : lineOf l 0 = 1 ∧ colOf l 0 = 1 := ⟨rfl, rfl⟩
theorem line_next (l : List B) (k : Nat) (hk : k < l.length) : lineOf l (k + 1) = (if l[k] = 10 then lineOf l k + 1 else lineOf l k) ∧ colOf l (k + 1) = (if l[k] = 10 then 1 else colOf l k + 1) := by
  have e : l.take (k + 1) = l.take k ++ [l[k]] := (List.take_append_getElem hk).symm
  have hl : (l.take k).length = k := by rw [List.length_take]; omega
  by_cases h : l[k] = 10
  · rw [if_pos h, if_pos h]
    unfold lineOf colOf
    rw [e, h]
    have h1 : lastIndex (l.take k ++ [10]) [10] = (k : Int) := by
      rw [last_app (l.take k) [], hl, last_none (fun j e => by simp at e)]
      omega
    have h2 : countByte (l.take k ++ [10]) 10 = countByte (l.take k) 10 + 1 := by
      unfold countByte
      rw [List.count_append]
      rfl
    rw [h1, h2]
    omega
  · rw [if_neg h, if_neg h]
    unfold lineOf colOf
    rw [e, last_snoc _ h]
    have h2 : countByte (l.take k ++ [l[k]]) 10 = countByte (l.take k) 10 := by
      unfold countByte
      rw [List.count_append, List.count_singleton, if_neg (by simpa using h)]
      rfl
    rw [h2]
    omega

theorem line_pos (l : List B) (k : Nat) : 1 ≤ lineOf l k := by unfold lineOf; omega

/-- The index of a line and a column has them. -/
theorem at_conv : ∀ (m : Nat) (l : List B), l.length ≤ m → ∀ n c k, atOf l n c = some k → k ≤ l.length ∧ lineOf l k = (n : Int) + 1 ∧ colOf l k = (c : Int) + 1 := by
  intro m
  induction m with
  | zero =>
    intro l hl n c k h
    have : l = [] := List.length_eq_zero_iff.1 (by omega)
    subst this
    cases n with
    | zero =>
      have hc : ¬ lineLen [] 0 < c := fun e => by simp [atOf, start, e] at h
      have : lineLen [] 0 = 0 := rfl
      have hc0 : c = 0 := by omega
      subst hc0
      simp [atOf, start, this] at h
      subst h
      exact ⟨Nat.le_refl _, rfl, rfl⟩
    | succ n =>
      have : start (n + 1) [] = none := rfl
      simp [atOf, this] at h
  | succ m ih =>
    intro l hl n c k h
    rcases index_is l with ⟨e, hn⟩ | ⟨x, y, rfl, e, hn⟩
    · cases n with
      | zero =>
        have hll : lineLen l 0 = l.length := by unfold lineLen; rw [List.drop_zero, e, if_pos (by decide), Nat.sub_zero]
        have hc : ¬ l.length < c := fun e' => by simp [atOf, start, hll, e'] at h
        simp [atOf, start, hll, hc] at h
        subst h
        have := line_head [] hn (show c ≤ l.length by omega)
        rw [List.append_nil] at this
        exact ⟨by omega, by rw [this.1]; rfl, this.2⟩
      | succ n =>
        have : start (n + 1) l = none := by rw [start, e, if_pos (by decide)]
        simp [atOf, this] at h
    · cases n with
      | zero =>
        have hll : lineLen (x ++ 10 :: y) 0 = x.length := by unfold lineLen; rw [List.drop_zero, e, if_neg (by omega), Int.toNat_natCast]
        have hc : ¬ x.length < c := fun e' => by simp [atOf, start, hll, e'] at h
        simp [atOf, start, hll, hc] at h
        subst h
        have := line_head (10 :: y) hn (show c ≤ x.length by omega)
        exact ⟨by rw [List.length_append]; omega, by rw [this.1]; rfl, this.2⟩
      | succ n =>
        rw [at_tail y hn] at h
        cases ha : atOf y n c with
        | none => rw [ha] at h; cases h
        | some k' =>
          rw [ha] at h
          simp only [Option.map_some, Option.some.injEq] at h
          subst h
          rw [List.length_append, List.length_cons] at hl
          obtain ⟨h1, h2, h3⟩ := ih y (by omega) n c k' ha
          have := line_tail y hn k'
          rw [show k' + (x.length + 1) = x.length + 1 + k' from by omega]
          exact ⟨by rw [List.length_append, List.length_cons]; omega, by rw [this.1, h2]; omega, by rw [this.2, h3]⟩

/-- No two indices have one line and one column. -/
theorem line_inj (l : List B) {a b : Nat} (ha : a ≤ l.length) (hb : b ≤ l.length) (h1 : lineOf l a = lineOf l b) (h2 : colOf l a = colOf l b) : a = b := by
  rcases Nat.lt_trichotomy a b with h | h | h
  · have := line_mono _ l (Nat.le_refl _) a b h hb; omega
  · exact h
  · have := line_mono _ l (Nat.le_refl _) b a h ha; omega
end Lx
