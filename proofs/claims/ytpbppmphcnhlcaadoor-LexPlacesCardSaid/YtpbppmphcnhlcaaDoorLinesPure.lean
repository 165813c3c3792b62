/- Lines and columns: there and back. No program stands here. -/
import Derived.Test.YtpbppmphcnhlcaaDoorLine
namespace Lx
open Go.Lib

theorem occ_nl (l : List B) (j : Nat) : occAt l [10] j = true ↔ l[j]? = some 10 := by
  unfold occAt
  have e : l[j]? = (l.drop j)[0]? := by rw [List.getElem?_drop, Nat.add_zero]
  rw [e]
  cases l.drop j with
  | nil => simp
  | cons x r =>
    simp only [List.isPrefixOf, List.getElem?_cons_zero, Bool.and_true, beq_iff_eq, Option.some.injEq]
    exact eq_comm

/-- What the last line feed's index is. -/
def LastIs (l : List B) (r : Int) : Prop := (r = -1 ∧ ∀ j : Nat, l[j]? ≠ some 10) ∨ (∃ i : Nat, r = i ∧ l[i]? = some 10 ∧ ∀ j : Nat, i < j → l[j]? ≠ some 10)

theorem last_is (l : List B) : LastIs l (lastIndex l [10]) := by
  have hout : ∀ j : Nat, l.length ≤ j → l[j]? ≠ some 10 := fun j hj e => by rw [List.getElem?_eq_none hj] at e; cases e
  unfold lastIndex
  split
  · rename_i h
    have hk : l.length - ([10] : List UInt8).length + 1 = l.length := by
      have : ([10] : List UInt8).length = 1 := rfl
      omega
    rw [hk]
    rcases lastOcc_spec l [10] l.length with ⟨e, hn⟩ | ⟨i, hi, e, hc, hn⟩
    · refine .inl ⟨e, fun j e' => ?_⟩
      rcases Nat.lt_or_ge j l.length with hj | hj
      · have := hn j hj
        rw [(occ_nl l j).2 e'] at this
        cases this
      · exact hout j hj e'
    · refine .inr ⟨i, e, (occ_nl l i).1 hc, fun j hj e' => ?_⟩
      rcases Nat.lt_or_ge j l.length with hj' | hj'
      · have := hn j hj hj'
        rw [(occ_nl l j).2 e'] at this
        cases this
      · exact hout j hj' e'
  · rename_i h
    have : l = [] := by
      cases l with
      | nil => rfl
      | cons x r => simp at h
    subst this
    exact .inl ⟨rfl, fun j e => by simp at e⟩

theorem last_unique {l : List B} {r s : Int} (h : LastIs l r) (k : LastIs l s) : r = s := by
  rcases h with ⟨rfl, hn⟩ | ⟨i, rfl, hc, hn⟩
  · rcases k with ⟨rfl, _⟩ | ⟨j, rfl, hc', _⟩
    · rfl
    · exact absurd hc' (hn j)
  · rcases k with ⟨rfl, hn'⟩ | ⟨j, rfl, hc', hn'⟩
    · exact absurd hc (hn' i)
    · have h1 : ¬ i < j := fun e => hn j e hc'
      have h2 : ¬ j < i := fun e => hn' i e hc
      have : i = j := by omega
      rw [this]

theorem last_none {l : List B} (h : ∀ j : Nat, l[j]? ≠ some 10) : lastIndex l [10] = -1 := last_unique (last_is l) (.inl ⟨rfl, h⟩)
theorem last_app (x y : List B) : lastIndex (x ++ 10 :: y) [10] = (x.length : Int) + 1 + lastIndex y [10] := by
  have at_ : ∀ j : Nat, (x ++ 10 :: y)[x.length + 1 + j]? = y[j]? := fun j => by
    rw [List.getElem?_append_right (by omega), show x.length + 1 + j - x.length = j + 1 from by omega, List.getElem?_cons_succ]
  refine last_unique (last_is _) ?_
  rcases last_is y with ⟨e, hn⟩ | ⟨i, e, hc, hn⟩
  · refine .inr ⟨x.length, by rw [e]; omega, by rw [List.getElem?_append_right (Nat.le_refl _)]; simp, fun j hj => ?_⟩
    have := at_ (j - x.length - 1)
    rw [show x.length + 1 + (j - x.length - 1) = j from by omega] at this
    rw [this]
    exact hn _
  · refine .inr ⟨x.length + 1 + i, by rw [e]; omega, by rw [at_]; exact hc, fun j hj => ?_⟩
    have := at_ (j - x.length - 1)
    rw [show x.length + 1 + (j - x.length - 1) = j from by omega] at this
    rw [this]
    exact hn _ (by omega)

theorem index_is (l : List B) : (indexByte l 10 = -1 ∧ ∀ j : Nat, l[j]? ≠ some 10) ∨ (∃ x y, l = x ++ 10 :: y ∧ indexByte l 10 = (x.length : Int) ∧ ∀ j : Nat, x[j]? ≠ some 10) := by
  induction l with
  | nil => exact .inl ⟨rfl, fun j e => by simp at e⟩
  | cons b r ih =>
    by_cases hb : b = 10
    · subst hb
      exact .inr ⟨[], r, rfl, by simp [indexByte], fun j e => by simp at e⟩
    · have hb' : (b == 10) = false := beq_eq_false_iff_ne.2 hb
      rcases ih with ⟨e, hn⟩ | ⟨x, y, rfl, e, hn⟩
      · refine .inl ⟨by simp [indexByte, hb', e], fun j e' => ?_⟩
        cases j with
        | zero => simp at e'; exact hb e'
        | succ j => simp at e'; exact hn j e'
      · refine .inr ⟨b :: x, y, rfl, ?_, fun j e' => ?_⟩
        · have hne : ((x.length : Int) == -1) = false := beq_eq_false_iff_ne.2 (by omega)
          simp only [indexByte, hb', e, hne, List.length_cons]
          simp
        · cases j with
          | zero => simp at e'; exact hb e'
          | succ j => simp at e'; exact hn j e'

theorem count_none {l : List B} (h : ∀ j : Nat, l[j]? ≠ some 10) : countByte l 10 = 0 := by
  unfold countByte
  rw [List.count_eq_zero]
  intro hm
  obtain ⟨i, hi, e⟩ := List.mem_iff_getElem.1 hm
  exact h i (by rw [List.getElem?_eq_getElem hi, e])
theorem take_none {l : List B} (h : ∀ j : Nat, l[j]? ≠ some 10) (k : Nat) : ∀ j : Nat, (l.take k)[j]? ≠ some 10 := fun j e => by
  rw [List.getElem?_take] at e
  split at e
  · exact h j e
  · cases e

/-- Before the first line feed, and behind it. -/
theorem line_head {x : List B} (r : List B) (h : ∀ j : Nat, x[j]? ≠ some 10) {k : Nat} (hk : k ≤ x.length) : lineOf (x ++ r) k = 1 ∧ colOf (x ++ r) k = (k : Int) + 1 := by
  have e : (x ++ r).take k = x.take k := List.take_append_of_le_length hk
  unfold lineOf colOf
  rw [e, count_none (take_none h k), last_none (take_none h k)]
  omega
theorem line_tail {x : List B} (y : List B) (h : ∀ j : Nat, x[j]? ≠ some 10) (k : Nat) : lineOf (x ++ 10 :: y) (x.length + 1 + k) = lineOf y k + 1 ∧ colOf (x ++ 10 :: y) (x.length + 1 + k) = colOf y k := by
  have e : (x ++ 10 :: y).take (x.length + 1 + k) = x ++ 10 :: y.take k := by
    rw [List.take_append, List.take_of_length_le (by omega), show x.length + 1 + k - x.length = k + 1 from by omega, List.take_succ_cons]
  unfold lineOf colOf
  rw [e, last_app]
  have : countByte (x ++ 10 :: y.take k) 10 = countByte (y.take k) 10 + 1 := by
    have h0 := count_none h
    unfold countByte at h0 ⊢
    rw [List.count_append, h0, List.count_cons_self, Nat.zero_add]
  rw [this]
  omega

theorem index_none : ∀ {x : List B}, (∀ j : Nat, x[j]? ≠ some 10) → indexByte x 10 = -1
  | [], _ => rfl
  | b :: x, h => by
    have hb : (b == 10) = false := beq_eq_false_iff_ne.2 (fun e => h 0 (by simp [e]))
    have := index_none (x := x) (fun j e => h (j + 1) (by simpa using e))
    simp [indexByte, hb, this]
theorem index_app : ∀ {x : List B} (y : List B), (∀ j : Nat, x[j]? ≠ some 10) → indexByte (x ++ 10 :: y) 10 = (x.length : Int)
  | [], y, _ => by simp [indexByte]
  | b :: x, y, h => by
    have hb : (b == 10) = false := beq_eq_false_iff_ne.2 (fun e => h 0 (by simp [e]))
    have := index_app (x := x) y (fun j e => h (j + 1) (by simpa using e))
    have hne : ((x.length : Int) == -1) = false := beq_eq_false_iff_ne.2 (by omega)
    simp only [List.cons_append, indexByte, hb, this, hne, List.length_cons]
    simp

theorem drop_tail (x y : List B) (s : Nat) : (x ++ 10 :: y).drop (s + (x.length + 1)) = y.drop s := by
  rw [List.drop_append, List.drop_of_length_le (by omega), List.nil_append, show s + (x.length + 1) - x.length = s + 1 from by omega, List.drop_succ_cons]

theorem at_head {x : List B} (r : List B) (hr : r = [] ∨ ∃ y, r = 10 :: y) (h : ∀ j : Nat, x[j]? ≠ some 10) {k : Nat} (hk : k ≤ x.length) : atOf (x ++ r) 0 k = some k := by
  have hl : lineLen (x ++ r) 0 = x.length := by
    unfold lineLen
    rw [List.drop_zero]
    rcases hr with rfl | ⟨y, rfl⟩
    · rw [List.append_nil, index_none h, if_pos (by decide), Nat.sub_zero]
    · rw [index_app y h, if_neg (by omega), Int.toNat_natCast]
  unfold atOf
  simp only [start]
  rw [hl, if_neg (by omega), Nat.zero_add]
theorem at_tail {x : List B} (y : List B) (h : ∀ j : Nat, x[j]? ≠ some 10) (n c : Nat) : atOf (x ++ 10 :: y) (n + 1) c = (atOf y n c).map (· + (x.length + 1)) := by
  have hs : start (n + 1) (x ++ 10 :: y) = (start n y).map (· + (x.length + 1)) := by
    have hd := drop_tail x y 0
    rw [Nat.zero_add, List.drop_zero] at hd
    rw [start, index_app y h, if_neg (by omega), Int.toNat_natCast, hd]
  have hl : ∀ s, lineLen (x ++ 10 :: y) (s + (x.length + 1)) = lineLen y s := fun s => by
    unfold lineLen
    rw [drop_tail]
    have : (x ++ 10 :: y).length - (s + (x.length + 1)) = y.length - s := by
      rw [List.length_append, List.length_cons]; omega
    rw [this]
  unfold atOf
  rw [hs]
  cases start n y with
  | none => rfl
  | some s =>
    simp only [Option.map_some]
    rw [hl]
    split
    · rfl
    · simp only [Option.map_some, Option.some.injEq]; omega

/-- There and back. -/
theorem at_line : ∀ (m : Nat) (l : List B), l.length ≤ m → ∀ k, k ≤ l.length → ∃ n c : Nat, lineOf l k = (n : Int) + 1 ∧ colOf l k = (c : Int) + 1 ∧ atOf l n c = some k := by
  intro m
  induction m with
  | zero =>
    intro l hl k hk
    have : l = [] := List.length_eq_zero_iff.1 (by omega)
    subst this
    have : k = 0 := by simpa using hk
    subst this
    exact ⟨0, 0, rfl, rfl, rfl⟩
  | succ m ih =>
    intro l hl k hk
    rcases index_is l with ⟨_, hn⟩ | ⟨x, y, rfl, _, hn⟩
    · have h1 := line_head [] hn hk
      have h2 := at_head [] (.inl rfl) hn hk
      rw [List.append_nil] at h1 h2
      exact ⟨0, k, by rw [h1.1]; rfl, h1.2, h2⟩
    · by_cases hkx : k ≤ x.length
      · have h1 := line_head (10 :: y) hn hkx
        exact ⟨0, k, by rw [h1.1]; rfl, h1.2, at_head (10 :: y) (.inr ⟨y, rfl⟩) hn hkx⟩
      · obtain ⟨k', rfl⟩ : ∃ k', k = x.length + 1 + k' := ⟨k - (x.length + 1), by omega⟩
        rw [List.length_append, List.length_cons] at hl hk
        obtain ⟨n, c, e1, e2, e3⟩ := ih y (by omega) k' (by omega)
        have h1 := line_tail y hn k'
        refine ⟨n + 1, c, by rw [h1.1, e1]; omega, by rw [h1.2, e2], ?_⟩
        rw [at_tail y hn, e3]
        simp only [Option.map_some, Option.some.injEq]
        omega

/-- A later index is on no earlier line, and on the same line in a later column. -/
theorem line_mono : ∀ (m : Nat) (l : List B), l.length ≤ m → ∀ a b, a < b → b ≤ l.length → lineOf l a < lineOf l b ∨ lineOf l a = lineOf l b ∧ colOf l a < colOf l b := by
  intro m
  induction m with
  | zero => intro l hl a b hab hb; omega
  | succ m ih =>
    intro l hl a b hab hb
    rcases index_is l with ⟨_, hn⟩ | ⟨x, y, rfl, _, hn⟩
    · have h1 := line_head [] hn (show a ≤ l.length by omega)
      have h2 := line_head [] hn hb
      rw [List.append_nil] at h1 h2
      omega
    · rw [List.length_append, List.length_cons] at hl hb
      by_cases hbx : b ≤ x.length
      · have h1 := line_head (10 :: y) hn (show a ≤ x.length by omega)
        have h2 := line_head (10 :: y) hn hbx
        omega
      · obtain ⟨b', rfl⟩ : ∃ b', b = x.length + 1 + b' := ⟨b - (x.length + 1), by omega⟩
        have h2 := line_tail y hn b'
        by_cases hax : a ≤ x.length
        · have h1 := line_head (10 :: y) hn hax
          have : 1 ≤ lineOf y b' := by unfold lineOf; omega
          omega
        · obtain ⟨a', rfl⟩ : ∃ a', a = x.length + 1 + a' := ⟨a - (x.length + 1), by omega⟩
          have h1 := line_tail y hn a'
          have := ih y (by omega) a' b' (by omega) (by omega)
          omega
end Lx
