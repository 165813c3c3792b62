/- How far a reader of a token looks: what stands behind the token matters by one or two bytes. No program stands here. -/
import Derived.Test.YtdchnjijdkgfhaaGreatDoorScan
namespace Lx

theorem peek_nil (n : Nat) : peek [] n = 0 := rfl
theorem peek_succ (c : B) (r : List B) (n : Nat) : peek (c :: r) (n + 1) = peek r n := rfl
theorem peek_off {l : List B} {n : Nat} (h : l.length ≤ n) : peek l n = 0 := by
  unfold peek; rw [List.getD_eq_getElem?_getD, List.getElem?_eq_none h]; rfl
theorem peek_dropped (l : List B) (j k : Nat) : peek (l.drop j) k = peek l (j + k) := by
  unfold peek; rw [List.getD_eq_getElem?_getD, List.getElem?_drop, List.getD_eq_getElem?_getD]
theorem peek_left {x y : List B} {k : Nat} (h : k < x.length) : peek (x ++ y) k = peek x k := by
  unfold peek; rw [List.getD_eq_getElem?_getD, List.getElem?_append_left h, List.getD_eq_getElem?_getD]
theorem peek_right (x y : List B) (k : Nat) : peek (x ++ y) (x.length + k) = peek y k := by
  unfold peek; rw [List.getD_eq_getElem?_getD, List.getElem?_append_right (by omega), List.getD_eq_getElem?_getD]
  rw [show x.length + k - x.length = k from by omega]
theorem peek_right' {x y : List B} {k : Nat} (h : x.length ≤ k) : peek (x ++ y) k = peek y (k - x.length) := by
  have := peek_right x y (k - x.length)
  rwa [show x.length + (k - x.length) = k from by omega] at this
theorem peek_take (l : List B) (m k : Nat) : peek (l.take m) k = if k < m then peek l k else 0 := by
  unfold peek; rw [List.getD_eq_getElem?_getD, List.getElem?_take]
  split
  · rw [List.getD_eq_getElem?_getD]
  · rfl
theorem peek_in_len {l : List B} {k : Nat} (h : peek l k ≠ 0) : k < l.length := by
  rcases Nat.lt_or_ge k l.length with h' | h'
  · exact h'
  · exact absurd (peek_off h') h

theorem span_all {p : B → Bool} : ∀ {l : List B} {i : Nat}, i < span p l → p (peek l i) = true
  | [], i, h => by simp [span] at h
  | c :: r, i, h => by
    cases hc : p c
    · rw [span_cons_neg hc] at h; omega
    · rw [span_cons_pos hc] at h
      cases i with
      | zero => exact hc
      | succ i => rw [peek_succ]; exact span_all (by omega)
theorem span_end {p : B → Bool} (h0 : p 0 = false) : ∀ (l : List B), p (peek l (span p l)) = false
  | [] => h0
  | c :: r => by
    cases hc : p c
    · rw [span_cons_neg hc]; exact hc
    · rw [span_cons_pos hc, peek_succ]; exact span_end h0 r
theorem span_of {p : B → Bool} (h0 : p 0 = false) {l : List B} {s : Nat} (h1 : ∀ i, i < s → p (peek l i) = true) (h2 : p (peek l s) = false) : span p l = s := by
  rcases Nat.lt_trichotomy (span p l) s with h | h | h
  · have := span_end h0 l; rw [h1 _ h] at this; cases this
  · exact h
  · have := span_all h; rw [h2] at this; cases this

theorem part0 : part 0 = false := by decide
theorem digit0 : digit 0 = false := by decide
theorem digit_part {c : B} (h : digit c = true) : part c = true := by simp [part, h]

/-- A byte that goes on no token. -/
def dull (c : B) : Prop := part c = false ∧ c ≠ 39 ∧ c ≠ 62
theorem dull_digit {c : B} (h : dull c) : digit c = false := by
  cases hd : digit c
  · rfl
  · have := h.1; rw [digit_part hd] at this; cases this
theorem dull_small {c : B} (h : dull c) : small c = false := by
  cases hd : small c
  · rfl
  · have := h.1; rw [part_small hd] at this; cases this
theorem dull_zero : dull 0 := by unfold dull; decide
theorem space_cases {c : B} (h : space c = true) : c = 9 ∨ c = 10 ∨ c = 13 ∨ c = 32 := by
  simp only [space, Bool.or_eq_true, decide_eq_true_eq] at h
  rcases h with ((h | h) | h) | h
  · exact .inl (UInt8.toNat_inj.1 h)
  · exact .inr (.inl (UInt8.toNat_inj.1 h))
  · exact .inr (.inr (.inl (UInt8.toNat_inj.1 h)))
  · exact .inr (.inr (.inr (UInt8.toNat_inj.1 h)))
theorem dull_space {c : B} (h : space c = true) : dull c := by
  rcases space_cases h with rfl | rfl | rfl | rfl <;> (unfold dull; decide)

theorem next_nil : next [] = .err 11 := rfl
theorem nameLen_le (l : List B) : nameLen l ≤ l.length := by
  unfold nameLen
  simp only
  split
  · rename_i h
    have h1 := span_le digit (l.drop (span part l + 1))
    rw [List.length_drop] at h1
    have : peek l (span part l + 1) ≠ 0 := fun e => by rw [e] at h; exact absurd h.2 (by decide)
    have := peek_in_len this
    omega
  · exact span_le _ _
theorem numLen_le {l : List B} (h : l ≠ []) : numLen l ≤ l.length := by
  unfold numLen
  split
  · have h1 := span_le digit (l.drop 1)
    rw [List.length_drop] at h1
    have := List.length_pos_iff.2 h
    omega
  · exact span_le _ _

/-- Behind a name, what does not go on changes nothing. -/
theorem nameLen_ctx {x y y' : List B} (h : nameLen (x ++ y) = x.length) (h0 : peek y' 0 = peek y 0 ∨ dull (peek y' 0)) (h1 : peek y' 1 = peek y 1 ∨ dull (peek y' 1)) : nameLen (x ++ y') = x.length := by
  have hl : ∀ i, i < x.length → peek (x ++ y') i = peek (x ++ y) i := fun i hi => by rw [peek_left hi, peek_left hi]
  unfold nameLen at h ⊢
  simp only at h ⊢
  by_cases hq : peek (x ++ y) (span part (x ++ y)) = 39 ∧ digit (peek (x ++ y) (span part (x ++ y) + 1)) = true
  · rw [if_pos hq] at h
    obtain ⟨s, hs⟩ : ∃ s, span part (x ++ y) = s := ⟨_, rfl⟩
    rw [hs] at h hq
    have hd1 : 1 ≤ span digit ((x ++ y).drop (s + 1)) := by
      rcases Nat.eq_zero_or_pos (span digit ((x ++ y).drop (s + 1))) with e | e
      · have := span_end digit0 ((x ++ y).drop (s + 1))
        rw [e, peek_dropped, Nat.add_zero, hq.2] at this
        cases this
      · exact e
    have hs' : span part (x ++ y') = s := by
      refine span_of part0 (fun i hi => ?_) ?_
      · rw [hl i (by omega)]; exact span_all (by omega)
      · rw [hl s (by omega), hq.1]; decide
    rw [hs']
    rw [if_pos ⟨by rw [hl s (by omega)]; exact hq.1, by rw [hl (s + 1) (by omega)]; exact hq.2⟩]
    have hd : span digit ((x ++ y').drop (s + 1)) = span digit ((x ++ y).drop (s + 1)) := by
      refine span_of digit0 (fun i hi => ?_) ?_
      · rw [peek_dropped, hl _ (by omega), ← peek_dropped]; exact span_all hi
      · have he := span_end digit0 ((x ++ y).drop (s + 1))
        rw [peek_dropped, show s + 1 + span digit ((x ++ y).drop (s + 1)) = x.length + 0 from by omega, peek_right] at he ⊢
        rcases h0 with e | e
        · rw [e]; exact he
        · exact dull_digit e
    rw [hd]; exact h
  · rw [if_neg hq] at h
    rw [h] at hq
    have he := span_end part0 (x ++ y)
    rw [h] at he
    have e0 : ∀ z, peek (x ++ z) x.length = peek z 0 := fun z => peek_right x z 0
    have e1 : ∀ z, peek (x ++ z) (x.length + 1) = peek z 1 := fun z => peek_right x z 1
    rw [e0] at he hq
    rw [e1] at hq
    have hs' : span part (x ++ y') = x.length := by
      refine span_of part0 (fun i hi => ?_) ?_
      · rw [hl i hi]; exact span_all (by omega)
      · rw [e0]
        rcases h0 with e | e
        · rw [e]; exact he
        · exact e.1
    rw [hs', e0, e1]
    rw [if_neg]
    rintro ⟨g0, g1⟩
    rcases h0 with e | e
    · rcases h1 with e' | e'
      · rw [e] at g0; rw [e'] at g1; exact hq ⟨g0, g1⟩
      · rw [dull_digit e'] at g1; cases g1
    · exact e.2.1 g0

theorem span_ctx {p : B → Bool} (hp : p 0 = false) {x y y' : List B} {k : Nat} (hk : k ≤ x.length) (h : k + span p ((x ++ y).drop k) = x.length) (h0 : p (peek y 0) = false → p (peek y' 0) = false) : k + span p ((x ++ y').drop k) = x.length := by
  have hl : ∀ i, i < x.length → peek (x ++ y') i = peek (x ++ y) i := fun i hi => by rw [peek_left hi, peek_left hi]
  have : span p ((x ++ y').drop k) = x.length - k := by
    refine span_of hp (fun i hi => ?_) ?_
    · rw [peek_dropped, hl _ (by omega), ← peek_dropped]; exact span_all (by omega)
    · have he := span_end hp ((x ++ y).drop k)
      rw [peek_dropped, show k + span p ((x ++ y).drop k) = x.length + 0 from by omega, peek_right] at he
      rw [peek_dropped, show k + (x.length - k) = x.length + 0 from by omega, peek_right]
      exact h0 he
  omega

theorem nextName_ctx {x y y' : List B} {k n : Int} (hx : x ≠ []) (h : nextName (x ++ y) = .tok k n x.length) (h0 : peek y' 0 = peek y 0 ∨ dull (peek y' 0)) (h1 : peek y' 1 = peek y 1 ∨ dull (peek y' 1)) : nextName (x ++ y') = .tok k n x.length := by
  have hN := (nextName_len h).1
  have hN' := nameLen_ctx hN.symm h0 h1
  have hp : peek (x ++ y') 0 = peek (x ++ y) 0 := by rw [peek_left (List.length_pos_iff.2 hx), peek_left (List.length_pos_iff.2 hx)]
  rw [← h]
  unfold nextName
  simp only
  rw [← hN, hN', hp, List.take_left, List.take_left]

theorem nextVar_ctx {x y y' : List B} {k n : Int} (h : nextVar (x ++ y) = .tok k n x.length) (h0 : peek y' 0 = peek y 0 ∨ dull (peek y' 0)) : nextVar (x ++ y') = .tok k n x.length := by
  have hN := (nextVar_len h).1
  have hN' := span_ctx (k := 1) (y' := y') part0 (by omega) hN.symm (fun e => by
    rcases h0 with e' | e'
    · rw [e']; exact e
    · exact e'.1)
  rw [← h]
  unfold nextVar
  simp only
  rw [← hN, hN']

theorem nextNum_ctx {x y y' : List B} {k n : Int} (hx : x ≠ []) (h : nextNum (x ++ y) = .tok k n x.length) (h0 : peek y' 0 = peek y 0 ∨ dull (peek y' 0)) : nextNum (x ++ y') = .tok k n x.length := by
  have hN := nextNum_len h
  have hp : peek (x ++ y') 0 = peek (x ++ y) 0 := by rw [peek_left (List.length_pos_iff.2 hx), peek_left (List.length_pos_iff.2 hx)]
  have hd0 : digit (peek y 0) = false → digit (peek y' 0) = false := fun e => by
    rcases h0 with e' | e'
    · rw [e']; exact e
    · exact dull_digit e'
  have hN' : numLen (x ++ y') = x.length := by
    unfold numLen at hN ⊢
    rw [hp]
    by_cases hc : peek (x ++ y) 0 = 126
    · rw [if_pos hc] at hN ⊢
      exact span_ctx (k := 1) (y' := y') digit0 (List.length_pos_iff.2 hx) hN.symm hd0
    · rw [if_neg hc] at hN ⊢
      have := span_ctx (k := 0) (y := y) (y' := y') (x := x) digit0 (Nat.zero_le _) (by rw [List.drop_zero]; omega) hd0
      rwa [List.drop_zero, Nat.zero_add] at this
  unfold nextNum at h ⊢
  simp only at h ⊢
  rw [← hN, List.take_left] at h
  rw [hN', List.take_left]
  cases hn : number x with
  | none => rw [hn] at h; cases h
  | some i =>
    rw [hn] at h
    simp only at h ⊢
    rw [show peek (x ++ y) x.length = peek y 0 from peek_right x y 0] at h
    rw [show peek (x ++ y') x.length = peek y' 0 from peek_right x y' 0]
    rcases h0 with e | e
    · rw [e]; exact h
    · rw [if_neg]
      · split at h
        · cases h
        · exact h
      · simp [e.1, e.2.1]

/-- Behind a token, what does not go on changes nothing. -/
theorem next_ctx {x y y' : List B} {k n : Int} (h : next (x ++ y) = .tok k n x.length) (h0 : peek y' 0 = peek y 0 ∨ dull (peek y' 0)) (h1 : peek y' 1 = peek y 1 ∨ dull (peek y' 1)) : next (x ++ y') = .tok k n x.length := by
  have hx : x ≠ [] := by
    rintro rfl
    cases hy : ([] ++ y : List B) with
    | nil => rw [hy, next_nil] at h; cases h
    | cons c r => rw [hy] at h; have := next_pos h; simp at this
  have hpos := List.length_pos_iff.2 hx
  have hp : peek (x ++ y') 0 = peek (x ++ y) 0 := by rw [peek_left hpos, peek_left hpos]
  by_cases ha : (small (peek (x ++ y) 0) || capital (peek (x ++ y) 0)) = true
  · rw [next_name ha] at h
    rw [next_name (by rw [hp]; exact ha)]
    exact nextName_ctx hx h h0 h1
  · have ha' : (small (peek (x ++ y) 0) || capital (peek (x ++ y) 0)) = false := by simpa using ha
    by_cases hb : peek (x ++ y) 0 = 39 ∧ small (peek (x ++ y) 1) = true
    · rw [next_var ha' hb.1 hb.2] at h
      have hl := (nextVar_len h).1
      have h2 : 1 ≤ span part ((x ++ y).drop 1) := by
        rcases Nat.eq_zero_or_pos (span part ((x ++ y).drop 1)) with e | e
        · have := span_end part0 ((x ++ y).drop 1)
          rw [e, peek_dropped, Nat.add_zero, part_small hb.2] at this
          cases this
        · exact e
      have hp1 : peek (x ++ y') 1 = peek (x ++ y) 1 := by rw [peek_left (by omega), peek_left (by omega)]
      rw [next_var (by rw [hp]; exact ha') (by rw [hp]; exact hb.1) (by rw [hp1]; exact hb.2)]
      exact nextVar_ctx h h0
    · have hb' : ¬ (peek (x ++ y') 0 = 39 ∧ small (peek (x ++ y') 1) = true) := by
        rw [hp]
        rintro ⟨g0, g1⟩
        refine hb ⟨g0, ?_⟩
        rcases Nat.lt_or_ge 1 x.length with hlt | hge
        · rwa [peek_left hlt] at g1 ⊢
        · have e1 : x.length = 1 := by omega
          have f : ∀ z, peek (x ++ z) 1 = peek z 0 := fun z => by have := peek_right x z 0; rwa [e1] at this
          rw [f] at g1 ⊢
          rcases h0 with e | e
          · rwa [e] at g1
          · rw [dull_small e] at g1; cases g1
      by_cases hc : peek (x ++ y) 0 = 126 ∨ digit (peek (x ++ y) 0) = true
      · rw [next_num ha' hb hc] at h
        rw [next_num (by rw [hp]; exact ha') hb' (by rw [hp]; exact hc)]
        exact nextNum_ctx hx h h0
      · rw [next_sign ha' hb hc] at h
        rw [next_sign (by rw [hp]; exact ha') hb' (by rw [hp]; exact hc), hp]
        by_cases hd : (peek (x ++ y) 0 = 61 ∨ peek (x ++ y) 0 = 45) ∧ peek (x ++ y) 1 = 62
        · rw [if_pos hd] at h
          have e2 : 2 = x.length := by injection h
          rw [if_pos ⟨hd.1, by rw [peek_left (show 1 < x.length by omega)]; have := hd.2; rwa [peek_left (show 1 < x.length by omega)] at this⟩]
          exact h
        · rw [if_neg hd] at h
          have e1 : 1 = x.length := by
            split at h
            · injection h
            · cases h
          have f : ∀ z, peek (x ++ z) 1 = peek z 0 := fun z => by have := peek_right x z 0; rwa [← e1] at this
          rw [if_neg]
          · exact h
          · rw [f] at hd ⊢
            rintro ⟨g0, g1⟩
            rcases h0 with e | e
            · exact hd ⟨g0, by rw [← e]; exact g1⟩
            · exact e.2.2 g1

theorem next_len {l : List B} {k n : Int} {j : Nat} (h : next l = .tok k n j) : 1 ≤ j ∧ j ≤ l.length := by
  cases l with
  | nil => rw [next_nil] at h; cases h
  | cons c r =>
    refine ⟨next_pos h, ?_⟩
    by_cases ha : (small (peek (c :: r) 0) || capital (peek (c :: r) 0)) = true
    · rw [next_name ha] at h
      rw [(nextName_len h).1]; exact nameLen_le _
    · have ha' : (small (peek (c :: r) 0) || capital (peek (c :: r) 0)) = false := by simpa using ha
      by_cases hb : peek (c :: r) 0 = 39 ∧ small (peek (c :: r) 1) = true
      · rw [next_var ha' hb.1 hb.2] at h
        rw [(nextVar_len h).1]
        have := span_le part ((c :: r).drop 1)
        rw [List.length_drop] at this
        simp only [List.length_cons] at this ⊢
        omega
      · by_cases hc : peek (c :: r) 0 = 126 ∨ digit (peek (c :: r) 0) = true
        · rw [next_num ha' hb hc] at h
          rw [nextNum_len h]; exact numLen_le (by simp)
        · rw [next_sign ha' hb hc] at h
          split at h
          · rename_i hd
            have : peek (c :: r) 1 ≠ 0 := fun e => by rw [e] at hd; exact absurd hd.2 (by decide)
            have := peek_in_len this
            cases h
            omega
          · split at h
            · cases h; simp
            · cases h

/-- A token is read where the text ends behind it, or anywhere further back. -/
theorem next_take {l : List B} {k n : Int} {j m : Nat} (h : next l = .tok k n j) (hm : j ≤ m) : next (l.take m) = .tok k n j := by
  have hj := (next_len h).2
  have e : l = l.take j ++ l.drop j := (List.take_append_drop j l).symm
  have e2 : l.take m = l.take j ++ (l.drop j).take (m - j) := by
    have := List.take_add (l := l) (i := j) (j := m - j)
    rwa [show j + (m - j) = m from by omega] at this
  have hlen : (l.take j).length = j := by rw [List.length_take]; omega
  rw [e2]
  have h' : next (l.take j ++ l.drop j) = .tok k n (l.take j).length := by rw [← e, hlen]; exact h
  have : ∀ i, peek ((l.drop j).take (m - j)) i = peek (l.drop j) i ∨ dull (peek ((l.drop j).take (m - j)) i) := fun i => by
    rw [peek_take]
    split
    · exact .inl rfl
    · exact .inr dull_zero
  have := next_ctx h' (this 0) (this 1)
  rwa [hlen] at this

theorem app_left {l : List B} {c : B} {r : List B} {i : Nat} (h : i < l.length) : peek (l ++ c :: r) i = peek l i := peek_left h
theorem app_at (l : List B) (c : B) (r : List B) : peek (l ++ c :: r) l.length = c := peek_right l (c :: r) 0

theorem span_app {p : B → Bool} (hp : p 0 = false) (l : List B) (c : B) (r : List B) (hc : p c = false) : span p (l ++ c :: r) = span p l := by
  have hle := span_le p l
  refine span_of hp (fun i hi => ?_) ?_
  · rw [app_left (by omega)]; exact span_all hi
  · rcases Nat.lt_or_ge (span p l) l.length with h | h
    · rw [app_left h]; exact span_end hp l
    · rw [show span p l = l.length from by omega, app_at]; exact hc

theorem nameLen_app (l : List B) (c : B) (r : List B) (hc : dull c) : nameLen (l ++ c :: r) = nameLen l := by
  have hs := span_app part0 l c r hc.1
  have hle := span_le part l
  unfold nameLen
  simp only
  rw [hs]
  rcases Nat.lt_or_ge (span part l) l.length with h | h
  · rw [app_left h]
    rcases Nat.lt_or_ge (span part l + 1) l.length with h' | h'
    · rw [app_left h', List.drop_append_of_le_length (by omega), span_app digit0 _ c r (dull_digit hc)]
    · rw [show span part l + 1 = l.length from by omega, app_at, peek_off (Nat.le_refl _)]
      rw [if_neg (by rw [dull_digit hc]; simp), if_neg (by rw [digit0]; simp)]
  · rw [show span part l = l.length from by omega, app_at, peek_off (Nat.le_refl _)]
    rw [if_neg (fun e => hc.2.1 e.1), if_neg (fun e => absurd e.1 (by decide))]

/-- In front of a byte that goes on no token, a text is read as if it ended there. -/
theorem next_app {l : List B} (hl : l ≠ []) (c : B) (r : List B) (hc : dull c) : next (l ++ c :: r) = next l := by
  have hpos := List.length_pos_iff.2 hl
  have hp : peek (l ++ c :: r) 0 = peek l 0 := app_left hpos
  have hp1 : peek (l ++ c :: r) 1 = peek l 1 ∨ (dull (peek (l ++ c :: r) 1) ∧ peek l 1 = 0) := by
    rcases Nat.lt_or_ge 1 l.length with h | h
    · exact .inl (app_left h)
    · have e : l.length = 1 := by omega
      have := app_at l c r
      rw [e] at this
      rw [this]
      exact .inr ⟨hc, peek_off (by omega)⟩
  by_cases ha : (small (peek l 0) || capital (peek l 0)) = true
  · rw [next_name ha, next_name (by rw [hp]; exact ha)]
    unfold nextName
    simp only
    rw [nameLen_app l c r hc, hp, List.take_append_of_le_length (nameLen_le l)]
  · have ha' : (small (peek l 0) || capital (peek l 0)) = false := by simpa using ha
    by_cases hb : peek l 0 = 39 ∧ small (peek l 1) = true
    · have hb1 : peek (l ++ c :: r) 1 = peek l 1 := by
        rcases hp1 with e | ⟨_, e⟩
        · exact e
        · rw [e] at hb; exact absurd hb.2 (by decide)
      rw [next_var ha' hb.1 hb.2, next_var (by rw [hp]; exact ha') (by rw [hp]; exact hb.1) (by rw [hb1]; exact hb.2)]
      unfold nextVar
      rw [List.drop_append_of_le_length (by omega), span_app part0 _ c r hc.1]
    · have hb' : ¬ (peek (l ++ c :: r) 0 = 39 ∧ small (peek (l ++ c :: r) 1) = true) := by
        rw [hp]
        rcases hp1 with e | ⟨e, _⟩
        · rw [e]; exact hb
        · rw [dull_small e]; simp
      by_cases hd : peek l 0 = 126 ∨ digit (peek l 0) = true
      · rw [next_num ha' hb hd, next_num (by rw [hp]; exact ha') hb' (by rw [hp]; exact hd)]
        have hN : numLen (l ++ c :: r) = numLen l := by
          unfold numLen
          rw [hp, List.drop_append_of_le_length (by omega), span_app digit0 _ c r (dull_digit hc), span_app digit0 _ c r (dull_digit hc)]
        have hle := numLen_le hl
        unfold nextNum
        simp only
        rw [hN, List.take_append_of_le_length hle]
        have hq : (part (peek (l ++ c :: r) (numLen l)) || decide (peek (l ++ c :: r) (numLen l) = 39)) = (part (peek l (numLen l)) || decide (peek l (numLen l) = 39)) := by
          rcases Nat.lt_or_ge (numLen l) l.length with h | h
          · rw [app_left h]
          · rw [show numLen l = l.length from by omega, app_at, peek_off (Nat.le_refl _), hc.1, part0]
            simp [hc.2.1]
        rw [hq]
      · rw [next_sign ha' hb hd, next_sign (by rw [hp]; exact ha') hb' (by rw [hp]; exact hd), hp]
        rcases hp1 with e | ⟨e, e'⟩
        · rw [e]
        · rw [if_neg (fun g => e.2.2 g.2), if_neg (c := (peek l 0 = 61 ∨ peek l 0 = 45) ∧ peek l 1 = 62) (fun g => by rw [e'] at g; exact absurd g.2 (by decide))]

theorem next_space {c : B} (h : space c = true) (r : List B) : next (c :: r) = .err 11 := by
  rcases space_cases h with rfl | rfl | rfl | rfl <;> rfl
theorem next_begins {l : List B} (h : begins l = true) : next l = .tok 6 0 1 := by
  have h' : peek l 0 = 40 ∧ peek l 1 = 42 := by simpa [begins] using h
  cases l with
  | nil => exact absurd h'.1 (by decide)
  | cons c r =>
    obtain ⟨h0, h1⟩ := h'
    have hc : c = 40 := h0
    subst hc
    rw [next_sign (by rw [peek_cons]; decide) (fun e => by rw [peek_cons] at e; exact absurd e.1 (by decide)) (fun e => by rw [peek_cons] at e; exact absurd e (by decide))]
    rw [peek_cons]
    rfl
end Lx
