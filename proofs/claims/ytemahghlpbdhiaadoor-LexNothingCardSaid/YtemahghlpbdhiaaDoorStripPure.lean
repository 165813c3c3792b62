/- A text without its comments, scanned. No program stands here. -/
import Derived.Test.YtemahghlpbdhiaaDoorSaneAll
import Derived.Test.YtemahghlpbdhiaaDoorScanPure
namespace Lx

def bl (c : B) : B := if c ≠ 10 then 32 else c
theorem bl_space (c : B) : space (bl c) = true := by
  unfold bl
  split
  · rfl
  · rename_i h
    have : c = 10 := by simpa using h
    rw [this]; rfl
theorem bl_ten (c : B) : bl c = 10 ↔ c = 10 := by
  unfold bl
  split
  · rename_i h
    exact ⟨fun e => absurd e (by decide), fun e => absurd e h⟩
  · rfl

theorem blank_mid {p a b : List B} : blank (p ++ (a ++ b)) p.length a.length = p ++ (a.map bl ++ b) := by
  apply List.ext_getElem
  · rw [blank_length]; simp
  · intro j h1 h2
    rw [blank_length] at h1
    rw [blank_at _ _ _ h1]
    rcases Nat.lt_or_ge j p.length with hp | hp
    · rw [if_neg (by omega), List.getElem_append_left hp, List.getElem_append_left hp]
    · rw [List.getElem_append_right hp, List.getElem_append_right hp]
      rcases Nat.lt_or_ge (j - p.length) a.length with ha | ha
      · rw [List.getElem_append_left ha, List.getElem_append_left (by simpa using ha), List.getElem_map]
        unfold bl
        by_cases h10 : a[j - p.length] ≠ 10
        · rw [if_pos ⟨hp, by omega, h10⟩, if_pos h10]
        · rw [if_neg (fun e => h10 e.2.2), if_neg h10]
      · rw [if_neg (by omega), List.getElem_append_right ha, List.getElem_append_right (by simpa using ha)]
        simp

theorem scan_blanks : ∀ (a l : List B) (p : Nat), (∀ c ∈ a, space c = true) → scan (a ++ l) p = scan l (p + a.length)
  | [], l, p, _ => rfl
  | c :: a, l, p, h => by
    rw [List.cons_append, scan_space (h c (by simp)), scan_blanks a l (p + 1) (fun x hx => h x (by simp [hx]))]
    congr 1
    rw [List.length_cons]; omega

/-- Byte by byte the same, or a space in the place of a byte that is no line feed. -/
def Faded (l l' : List B) : Prop := l'.length = l.length ∧ ∀ i, peek l' i = peek l i ∨ (peek l' i = 32 ∧ peek l i ≠ 10)

theorem Faded.cons {l l' : List B} (c : B) (h : Faded l l') : Faded (c :: l) (c :: l') :=
  ⟨by simp [h.1], fun i => by cases i with
    | zero => exact .inl rfl
    | succ i => exact h.2 i⟩
theorem Faded.app {l l' : List B} (a : List B) (h : Faded l l') : Faded (a ++ l) (a ++ l') := by
  induction a with
  | nil => exact h
  | cons c a ih => exact ih.cons c
theorem Faded.blank {l l' : List B} (a : List B) (h : Faded l l') : Faded (a ++ l) (a.map bl ++ l') := by
  induction a with
  | nil => exact h
  | cons c a ih =>
    refine ⟨by simpa using ih.1, fun i => ?_⟩
    cases i with
    | zero =>
      show bl c = c ∨ (bl c = 32 ∧ c ≠ 10)
      unfold bl
      by_cases h10 : c ≠ 10
      · rw [if_pos h10]; exact .inr ⟨rfl, h10⟩
      · rw [if_neg h10]; exact .inl rfl
    | succ i => exact ih.2 i

/-- Without its comments a text has the same tokens at the same places. -/
theorem scan_strip : ∀ (m : Nat) (l : List B) (p : Nat) (ts : List Tok) (cs : List (Nat × Nat)) (pre : List B), l.length ≤ m → pre.length = p → scan l p = .ok ts cs →
    ∃ l', strip (pre ++ l) cs = pre ++ l' ∧ Faded l l' ∧ scan l' p = .ok ts [] := by
  intro m
  induction m with
  | zero =>
    intro l p ts cs pre hl _ h
    obtain rfl : l = [] := List.eq_nil_of_length_eq_zero (by omega)
    cases h
    exact ⟨[], rfl, ⟨rfl, fun _ => .inl rfl⟩, rfl⟩
  | succ m ih =>
    intro l p ts cs pre hl hp h
    cases l with
    | nil => cases h; exact ⟨[], rfl, ⟨rfl, fun _ => .inl rfl⟩, rfl⟩
    | cons c r =>
      simp only [List.length_cons] at hl
      cases hs : space c
      · cases hb : begins (c :: r)
        · rw [scan_tok hs hb] at h
          cases hn : next (c :: r) with
          | err x => rw [hn] at h; cases h
          | tok k n j =>
            rw [hn] at h
            simp only at h
            have hj := next_len hn
            obtain ⟨ts', h', rfl⟩ := Scan.tok_ok h
            have hlen : ((c :: r).take j).length = j := take_len hj.2
            obtain ⟨l', e1, e2, e3⟩ := ih _ _ _ _ (pre ++ (c :: r).take j) (by rw [List.length_drop, List.length_cons]; omega) (by rw [List.length_append, hlen, hp]) h'
            rw [List.append_assoc, List.take_append_drop, List.append_assoc] at e1
            have hF := e2.app ((c :: r).take j)
            rw [List.take_append_drop] at hF
            refine ⟨(c :: r).take j ++ l', e1, hF, ?_⟩
            have hc : ∀ i, peek l' i = peek ((c :: r).drop j) i ∨ dull (peek l' i) := fun i => (e2.2 i).imp id (fun e => by rw [e.1]; exact dull_space (by decide))
            have hnx : next ((c :: r).take j ++ l') = .tok k n j := by
              have := next_ctx (x := (c :: r).take j) (y := (c :: r).drop j) (y' := l') (k := k) (n := n) (by rw [List.take_append_drop, hlen]; exact hn) (hc 0) (hc 1)
              rwa [hlen] at this
            have hbb : begins ((c :: r).take j ++ l') = false := by
              unfold begins at hb ⊢
              rw [peek_left (by omega), peek_take, if_pos (by omega)]
              rcases Nat.lt_or_ge 1 j with h1 | h1
              · rw [peek_left (by omega), peek_take, if_pos h1]; exact hb
              · have e : j = 1 := by omega
                rw [peek_right' (by omega), hlen, e, Nat.sub_self]
                rcases e2.2 0 with e' | ⟨e', _⟩
                · rw [e', peek_dropped, e]; exact hb
                · rw [e']; simp
            obtain ⟨i, hi⟩ : ∃ i, j = i + 1 := ⟨j - 1, by omega⟩
            have htk : (c :: r).take j = c :: r.take i := by rw [hi, List.take_succ_cons]
            rw [htk] at hnx hbb ⊢
            rw [List.cons_append] at hnx hbb ⊢
            rw [scan_tok hs hbb, hnx]
            simp only
            have hd : (c :: (r.take i ++ l')).drop j = l' := by
              rw [← List.cons_append, ← htk, List.drop_append_of_le_length (by omega), List.drop_of_length_le (by omega), List.nil_append]
            have ht : (c :: (r.take i ++ l')).take j = c :: r.take i := by
              rw [← List.cons_append, ← htk, List.take_append_of_le_length (by omega), List.take_of_length_le (by omega)]
            rw [hd, ht, e3]
            rfl
        · rw [scan_com hs hb] at h
          cases hn : comment (c :: r) 0 0 with
          | closed n =>
            rw [hn] at h
            simp only at h
            obtain ⟨a, b, hab, ha, h2, hd, _, _⟩ := com_drop hn
            obtain ⟨cs', h', rfl⟩ := Scan.com_ok h
            rw [hd] at h'
            obtain ⟨l', e1, e2, e3⟩ := ih b (p + n) ts cs' (pre ++ a.map bl) (by have := congrArg List.length hab; rw [List.length_append, List.length_cons] at this; omega) (by rw [List.length_append, List.length_map]; omega) h'
            refine ⟨a.map bl ++ l', ?_, ?_, ?_⟩
            · rw [List.append_assoc, List.append_assoc] at e1
              rw [← e1, hab]
              show strip (blank (pre ++ (a ++ b)) p (p + n - p)) cs' = _
              rw [Nat.add_sub_cancel_left, ← ha, ← hp, blank_mid]
            · rw [hab]; exact e2.blank a
            · rw [scan_blanks _ _ _ (fun x hx => by
                obtain ⟨y, _, rfl⟩ := List.mem_map.1 hx
                exact bl_space y), List.length_map, ha]
              exact e3
          | «open» => rw [hn] at h; cases h
          | deep n => rw [hn] at h; cases h
      · rw [scan_space hs] at h
        obtain ⟨l', e1, e2, e3⟩ := ih r (p + 1) ts cs (pre ++ [c]) (by omega) (by simp [hp]) h
        rw [List.append_assoc, List.append_assoc] at e1
        exact ⟨c :: l', e1, e2.cons c, by rw [scan_space hs]; exact e3⟩

/-- Where a token begins (behind the last one: where the text ends), and where the one before it ends. -/
def startOf (len : Nat) (ts : List Tok) (i : Nat) : Nat := match ts[i]? with | some t => t.pos | none => len
def endOf (p : Nat) (ts : List Tok) : Nat → Nat
  | 0 => p
  | i + 1 => match ts[i]? with | some t => t.pos + t.text.length | none => p
/-- In a text without comments all bytes between tokens are spaces. -/
theorem scan_gaps : ∀ (m : Nat) (l : List B) (p : Nat) (ts : List Tok), l.length ≤ m → scan l p = .ok ts [] → ∀ i, i ≤ ts.length →
    endOf p ts i ≤ startOf (p + l.length) ts i ∧ ∀ a, endOf p ts i ≤ a → a < startOf (p + l.length) ts i → p ≤ a ∧ space (peek l (a - p)) = true := by
  intro m
  induction m with
  | zero =>
    intro l p ts hl h i hi
    obtain rfl : l = [] := List.eq_nil_of_length_eq_zero (by omega)
    cases h
    obtain rfl : i = 0 := by simpa using hi
    exact ⟨Nat.le_refl _, fun a h1 h2 => by simp only [endOf, startOf, List.length_nil] at h1 h2; exact absurd h2 (by simp; omega)⟩
  | succ m ih =>
    intro l p ts hl h i hi
    cases l with
    | nil =>
      cases h
      obtain rfl : i = 0 := by simpa using hi
      exact ⟨Nat.le_refl _, fun a h1 h2 => by simp only [endOf, startOf, List.length_nil] at h1 h2; exact absurd h2 (by simp; omega)⟩
    | cons c r =>
      simp only [List.length_cons] at hl
      cases hs : space c
      · cases hb : begins (c :: r)
        · rw [scan_tok hs hb] at h
          cases hn : next (c :: r) with
          | err x => rw [hn] at h; cases h
          | tok k n j =>
            rw [hn] at h
            simp only at h
            have hj := next_len hn
            obtain ⟨ts', h', rfl⟩ := Scan.tok_ok h
            have hlen : ((c :: r).take j).length = j := take_len hj.2
            cases i with
            | zero => exact ⟨Nat.le_refl _, fun a h1 h2 => by simp only [endOf, startOf, List.getElem?_cons_zero] at h1 h2; omega⟩
            | succ i =>
              have := ih _ _ _ (by rw [List.length_drop, List.length_cons]; omega) h' i (by simpa using hi)
              rw [List.length_drop, show p + j + ((c :: r).length - j) = p + (c :: r).length from by omega] at this
              have e1 : startOf (p + (c :: r).length) (⟨k, n, (c :: r).take j, p⟩ :: ts') (i + 1) = startOf (p + (c :: r).length) ts' i := by unfold startOf; rw [List.getElem?_cons_succ]
              have e2 : endOf p (⟨k, n, (c :: r).take j, p⟩ :: ts') (i + 1) = endOf (p + j) ts' i := by
                cases i with
                | zero => simp only [endOf, List.getElem?_cons_zero]; rw [hlen]
                | succ i =>
                  simp only [endOf, List.getElem?_cons_succ]
                  have : i < ts'.length := by simp only [List.length_cons] at hi; omega
                  rw [List.getElem?_eq_getElem this]
              rw [e1, e2]
              refine ⟨this.1, fun a h1 h2 => ?_⟩
              obtain ⟨g1, g2⟩ := this.2 a h1 h2
              rw [peek_dropped, show j + (a - (p + j)) = a - p from by omega] at g2
              exact ⟨by omega, g2⟩
        · rw [scan_com hs hb] at h
          cases hn : comment (c :: r) 0 0 with
          | closed n =>
            rw [hn] at h
            obtain ⟨cs', h', he⟩ := Scan.com_ok h
            cases he
          | «open» => rw [hn] at h; cases h
          | deep n => rw [hn] at h; cases h
      · rw [scan_space hs] at h
        have hz := ih r (p + 1) ts (by omega) h
        have := hz i hi
        rw [show p + 1 + r.length = p + (c :: r).length from by rw [List.length_cons]; omega] at this
        cases i with
        | zero =>
          simp only [endOf] at this ⊢
          refine ⟨by omega, fun a h1 h2 => ?_⟩
          rcases Nat.eq_or_lt_of_le h1 with e | e
          · subst e; exact ⟨Nat.le_refl _, by rw [Nat.sub_self]; exact hs⟩
          · obtain ⟨g1, g2⟩ := this.2 a e h2
            refine ⟨h1, ?_⟩
            rw [show a - p = a - (p + 1) + 1 from by omega, peek_succ]; exact g2
        | succ i =>
          have hlt : i < ts.length := by omega
          simp only [endOf, List.getElem?_eq_getElem hlt] at this ⊢
          refine ⟨this.1, fun a h1 h2 => ?_⟩
          obtain ⟨g1, g2⟩ := this.2 a h1 h2
          refine ⟨by omega, ?_⟩
          rw [show a - p = a - (p + 1) + 1 from by omega, peek_succ]; exact g2
end Lx
