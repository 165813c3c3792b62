/- The scan of a list, step by step: no program stands here. -/
import Derived.Test.YtdchnjijdkgfhaaGreatDoorSpec
namespace Lx

theorem span_cons_pos {p : B → Bool} {c : B} {r : List B} (h : p c = true) : span p (c :: r) = span p r + 1 := if_pos h
theorem span_cons_neg {p : B → Bool} {c : B} {r : List B} (h : p c = false) : span p (c :: r) = 0 := if_neg (by simp [h])
theorem span_le (p : B → Bool) : ∀ l : List B, span p l ≤ l.length
  | [] => Nat.le_refl _
  | c :: r => by
    cases h : p c
    · rw [span_cons_neg h]; exact Nat.zero_le _
    · rw [span_cons_pos h]; simp only [List.length_cons]; have := span_le p r; omega

theorem comment_pos : ∀ (l : List B) (k n m : Nat), comment l k n = .closed m → n < m := by
  intro l k n
  fun_induction comment l k n with
  | case1 r n => intro m h; cases h
  | case2 r k n hk ih => intro m h; have := ih m h; omega
  | case3 r k n hk => intro m h; cases h; omega
  | case4 r k n hk ih => intro m h; have := ih m h; omega
  | case5 c r k n h1 h2 ih => intro m h; have := ih m h; omega
  | case6 => intro m h; cases h

theorem part_small {c : B} (h : small c = true) : part c = true := by simp [part, h]
theorem part_capital {c : B} (h : capital c = true) : part c = true := by simp [part, h]

theorem peek_cons (c : B) (r : List B) : peek (c :: r) 0 = c := rfl

theorem nameLen_pos {c : B} {r : List B} (h : part c = true) : 1 ≤ nameLen (c :: r) := by
  unfold nameLen
  rw [span_cons_pos h]
  simp only
  split <;> omega

theorem numLen_pos {c : B} {r : List B} (h : c = 126 ∨ digit c = true) : 1 ≤ numLen (c :: r) := by
  unfold numLen
  rw [peek_cons]
  split
  · omega
  · rename_i hc
    rw [span_cons_pos (h.resolve_left hc)]
    omega

theorem next_name {l : List B} (h : (small (peek l 0) || capital (peek l 0)) = true) : next l = nextName l := if_pos h
theorem next_var {l : List B} (h : (small (peek l 0) || capital (peek l 0)) = false) (h1 : peek l 0 = 39) (h2 : small (peek l 1) = true) : next l = nextVar l := by
  unfold next
  simp only
  rw [if_neg (by rw [h]; exact Bool.false_ne_true), if_pos ⟨h1, h2⟩]
theorem next_num {l : List B} (h : (small (peek l 0) || capital (peek l 0)) = false) (h1 : ¬ (peek l 0 = 39 ∧ small (peek l 1) = true)) (h2 : peek l 0 = 126 ∨ digit (peek l 0) = true) : next l = nextNum l := by
  unfold next
  simp only
  rw [if_neg (by rw [h]; exact Bool.false_ne_true), if_neg h1, if_pos h2]
theorem next_sign {l : List B} (h : (small (peek l 0) || capital (peek l 0)) = false) (h1 : ¬ (peek l 0 = 39 ∧ small (peek l 1) = true)) (h2 : ¬ (peek l 0 = 126 ∨ digit (peek l 0) = true)) :
    next l = if (peek l 0 = 61 ∨ peek l 0 = 45) ∧ peek l 1 = 62 then .tok 6 0 2 else if sign1.contains (peek l 0) then .tok 6 0 1 else .err 11 := by
  unfold next
  simp only
  rw [if_neg (by rw [h]; exact Bool.false_ne_true), if_neg h1, if_neg h2]

theorem nextName_len {l : List B} {k n : Int} {j : Nat} (h : nextName l = .tok k n j) : j = nameLen l ∧ j ≤ 24 := by
  unfold nextName at h
  simp only at h
  by_cases h1 : 24 < nameLen l
  · rw [if_pos h1] at h; cases h
  · rw [if_neg h1] at h
    by_cases h2 : capital (peek l 0) = true
    · rw [if_pos h2] at h; cases h; exact ⟨rfl, by omega⟩
    · rw [if_neg h2] at h
      by_cases h3 : isWord (l.take (nameLen l)) = true
      · rw [if_pos h3] at h; cases h; exact ⟨rfl, by omega⟩
      · rw [if_neg h3] at h; cases h; exact ⟨rfl, by omega⟩
theorem nextVar_len {l : List B} {k n : Int} {j : Nat} (h : nextVar l = .tok k n j) : j = 1 + span part (l.drop 1) ∧ j ≤ 24 := by
  unfold nextVar at h
  simp only at h
  by_cases h1 : 24 < 1 + span part (l.drop 1)
  · rw [if_pos h1] at h; cases h
  · rw [if_neg h1] at h; cases h; exact ⟨rfl, by omega⟩
theorem nextNum_len {l : List B} {k n : Int} {j : Nat} (h : nextNum l = .tok k n j) : j = numLen l := by
  unfold nextNum at h
  simp only at h
  cases hn : number (l.take (numLen l)) with
  | none => rw [hn] at h; cases h
  | some i =>
    rw [hn] at h
    simp only at h
    by_cases h1 : (part (peek l (numLen l)) || decide (peek l (numLen l) = 39)) = true
    · rw [if_pos h1] at h; cases h
    · rw [if_neg h1] at h; cases h; rfl

theorem next_pos {c : B} {r : List B} {k n : Int} {j : Nat} (h : next (c :: r) = .tok k n j) : 1 ≤ j := by
  cases h1 : (small c || capital c)
  · by_cases h2 : c = 39 ∧ small (peek (c :: r) 1) = true
    · rw [next_var (l := c :: r) h1 h2.1 h2.2] at h
      have := (nextVar_len h).1
      omega
    · by_cases h3 : c = 126 ∨ digit c = true
      · rw [next_num (l := c :: r) h1 h2 h3] at h
        have := nextNum_len h
        have := numLen_pos (r := r) h3
        omega
      · rw [next_sign (l := c :: r) h1 h2 h3] at h
        by_cases h4 : (peek (c :: r) 0 = 61 ∨ peek (c :: r) 0 = 45) ∧ peek (c :: r) 1 = 62
        · rw [if_pos h4] at h; cases h; omega
        · rw [if_neg h4] at h
          by_cases h5 : sign1.contains (peek (c :: r) 0) = true
          · rw [if_pos h5] at h; cases h; omega
          · rw [if_neg h5] at h; cases h
  · rw [next_name (l := c :: r) h1] at h
    have h2 := (nextName_len h).1
    have hp : part c = true := by
      rw [Bool.or_eq_true] at h1
      rcases h1 with hc | hc
      · exact part_small hc
      · exact part_capital hc
    have := nameLen_pos (r := r) hp
    omega

theorem scanF_fuel : ∀ (n f : Nat) (l : List B) (p : Nat), l.length ≤ n → n ≤ f → scanF f l p = scanF n l p := by
  intro n
  induction n with
  | zero =>
    intro f l p hl hf
    obtain rfl : l = [] := List.eq_nil_of_length_eq_zero (by omega)
    cases f <;> rfl
  | succ n ih =>
    intro f l p hl hf
    cases l with
    | nil => cases f <;> rfl
    | cons c r =>
      cases f with
      | zero => omega
      | succ f =>
        simp only [List.length_cons] at hl
        have hd : ∀ j, 1 ≤ j → ∀ q, scanF f ((c :: r).drop j) q = scanF n ((c :: r).drop j) q := fun j hj q =>
          ih f _ q (by rw [List.length_drop, List.length_cons]; omega) (by omega)
        simp only [scanF]
        split
        · exact ih f r _ (by omega) (by omega)
        · split
          · split
            · rename_i m hm
              rw [hd m (by have := comment_pos _ _ _ _ hm; omega)]
            · rfl
            · rfl
          · split
            · rename_i k i j hj
              rw [hd j (next_pos hj)]
            · rfl

theorem scan_nil (p : Nat) : scan [] p = .ok [] [] := rfl
theorem scan_space {c : B} {r : List B} (h : space c = true) (p : Nat) : scan (c :: r) p = scan r (p + 1) := by
  unfold scan
  rw [List.length_cons, scanF, if_pos h]
theorem scan_spaces : ∀ (l : List B) (p : Nat), scan l p = scan (l.drop (span space l)) (p + span space l)
  | [], _ => rfl
  | c :: r, p => by
    cases h : space c
    · rw [span_cons_neg h]; rfl
    · rw [span_cons_pos h, scan_space h, scan_spaces r (p + 1), List.drop_succ_cons]
      congr 1
      omega
theorem scan_com {c : B} {r : List B} (h : space c = false) (hb : begins (c :: r) = true) (p : Nat) :
    scan (c :: r) p = match comment (c :: r) 0 0 with
      | .closed n => (scan ((c :: r).drop n) (p + n)).com p (p + n)
      | .open => .err p 12
      | .deep n => .err (p + n) 6 := by
  unfold scan
  rw [List.length_cons, scanF, if_neg (by simp [h]), if_pos hb]
  cases hn : comment (c :: r) 0 0 with
  | closed n =>
    simp only
    rw [scanF_fuel _ r.length ((c :: r).drop n) _ (Nat.le_refl _) (by have := comment_pos _ _ _ _ hn; rw [List.length_drop, List.length_cons]; omega)]
  | «open» => rfl
  | deep n => rfl
theorem scan_tok {c : B} {r : List B} (h : space c = false) (hb : begins (c :: r) = false) (p : Nat) :
    scan (c :: r) p = match next (c :: r) with
      | .tok k n j => (scan ((c :: r).drop j) (p + j)).tok { kind := k, num := n, text := (c :: r).take j, pos := p }
      | .err e => .err p e := by
  unfold scan
  rw [List.length_cons, scanF, if_neg (by simp [h]), if_neg (by simp [hb])]
  cases hj : next (c :: r) with
  | tok k n j =>
    simp only
    rw [scanF_fuel _ r.length ((c :: r).drop j) _ (Nat.le_refl _) (by have := next_pos hj; rw [List.length_drop, List.length_cons]; omega)]
  | err e => rfl

/-- Tokens and comments ahead of those of a scan. -/
def Scan.pre (ts : List Tok) (cs : List (Nat × Nat)) : Scan → Scan
  | .ok ts' cs' => .ok (ts ++ ts') (cs ++ cs')
  | .err p e => .err p e
theorem Scan.pre_nil (s : Scan) : s.pre [] [] = s := by cases s <;> rfl
theorem Scan.pre_pre (s : Scan) (a b : List Tok) (c d : List (Nat × Nat)) : (s.pre b d).pre a c = s.pre (a ++ b) (c ++ d) := by
  cases s <;> simp [Scan.pre]
theorem Scan.com_pre (s : Scan) (a b : Nat) : s.com a b = s.pre [] [(a, b)] := by cases s <;> rfl
theorem Scan.tok_pre (s : Scan) (t : Tok) : s.tok t = s.pre [t] [] := by cases s <;> rfl
end Lx
