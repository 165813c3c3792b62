/- Tokens joined, and scanned again. No program stands here. -/
import Derived.Test.YtdchnjijdkgfhaaGreatDoorSaneAll
import Derived.Test.YtdchnjijdkgfhaaGreatDoorScanPure
import Derived.Test.YtdchnjijdkgfhaaGreatDoorNumPure
namespace Lx

theorem whole_iff {x : List B} {k n : Int} : whole x = some (k, n) ↔ next x = .tok k n x.length := by
  unfold whole
  constructor
  · intro h
    cases hn : next x with
    | err e => rw [hn] at h; cases h
    | tok k' n' j =>
      rw [hn] at h
      simp only at h
      split at h
      · rename_i hj
        simp only [Option.some.injEq, Prod.mk.injEq] at h
        obtain ⟨rfl, rfl⟩ := h
        rw [show j = x.length from by have := (next_len hn).2; omega]
      · cases h
  · intro h
    rw [h]
    simp only
    rw [if_pos (Nat.le_refl _)]

/-- A kind, a number and a text that is read as a token of them. -/
structure Tk0 where
  kind : Int
  num : Int
  text : List B
def Tk0.ok (t : Tk0) : Prop := next t.text = .tok t.kind t.num t.text.length

/-- Tokens one space after the other, from a place on. -/
def place : Nat → List Tk0 → List Tok
  | _, [] => []
  | p, t :: r => ⟨t.kind, t.num, t.text, p⟩ :: place (p + t.text.length + 1) r

theorem scan_one {t : Tk0} (h : t.ok) (p : Nat) : scan t.text p = .ok [⟨t.kind, t.num, t.text, p⟩] [] := by
  unfold Tk0.ok at h
  have hj := next_len h
  cases hx : t.text with
  | nil => rw [hx] at hj; simp at hj
  | cons c r =>
    rw [hx] at h
    have hs : space c = false := by
      cases hs : space c
      · rfl
      · rw [next_space hs] at h; cases h
    have hb : begins (c :: r) = false := by
      cases hb : begins (c :: r)
      · rfl
      · obtain ⟨r', hr⟩ := begins_two hb
        rw [next_begins hb, hr] at h
        simp at h
    rw [scan_tok hs hb, h]
    simp only
    rw [List.drop_length, List.take_length]
    rfl

theorem scan_jn : ∀ (L : List Tk0) (p : Nat), (∀ t ∈ L, t.ok) → scan (jn (L.map Tk0.text)) p = .ok (place p L) []
  | [], p, _ => rfl
  | [t], p, h => by
    show scan t.text p = _
    rw [scan_one (h t (by simp))]
    rfl
  | t :: u :: r, p, h => by
    show scan (t.text ++ 32 :: jn ((u :: r).map Tk0.text)) p = _
    obtain ⟨h1, _⟩ := scan_before t.text.length t.text p 32 (jn ((u :: r).map Tk0.text)) (Nat.le_refl _) (by decide)
    rw [h1 _ _ (scan_one (h t (by simp)) p), scan_jn (u :: r) _ (fun x hx => h x (List.mem_cons_of_mem _ hx))]
    rfl

theorem place_length : ∀ (L : List Tk0) (p : Nat), (place p L).length = L.length
  | [], _ => rfl
  | t :: r, p => by simp [place, place_length r]
theorem place_at : ∀ (L : List Tk0) (p i : Nat) (hi : i < L.length), ∃ q, (place p L)[i]? = some ⟨L[i].kind, L[i].num, L[i].text, q⟩ ∧ q + (jn ((L.drop i).map Tk0.text)).length = p + (jn (L.map Tk0.text)).length
  | [], p, i, hi => by simp at hi
  | t :: r, p, 0, _ => ⟨p, rfl, rfl⟩
  | [t], p, i + 1, hi => by simp at hi
  | t :: u :: r, p, i + 1, hi => by
    obtain ⟨q, h1, h2⟩ := place_at (u :: r) (p + t.text.length + 1) i (by simpa using hi)
    refine ⟨q, ?_, ?_⟩
    · rw [place, List.getElem?_cons_succ, h1]
      rfl
    · rw [List.drop_succ_cons, h2]
      show _ = p + (t.text ++ 32 :: jn ((u :: r).map Tk0.text)).length
      rw [List.length_append, List.length_cons]
      omega

/-- The bytes of joined texts ahead of the token of an index. -/
def upAt (L : List Tk0) : Nat → Nat
  | 0 => 0
  | i + 1 => upAt L i + (match L[i]? with | some t => t.text.length | none => 0) + 1
theorem upAt_cons (t : Tk0) (r : List Tk0) : ∀ i, upAt (t :: r) (i + 1) = t.text.length + 1 + upAt r i
  | 0 => by simp [upAt]
  | i + 1 => by
    have := upAt_cons t r i
    rw [upAt, this, upAt, List.getElem?_cons_succ]
    omega
theorem place_get : ∀ (L : List Tk0) (p i : Nat) (hi : i < L.length), (place p L)[i]? = some ⟨L[i].kind, L[i].num, L[i].text, p + upAt L i⟩
  | [], p, i, hi => by simp at hi
  | t :: r, p, 0, _ => by simp [place, upAt]
  | t :: r, p, i + 1, hi => by
    rw [place, List.getElem?_cons_succ, place_get r _ i (by simpa using hi), upAt_cons]
    simp only [List.getElem_cons_succ, Option.some.injEq, Tok.mk.injEq, true_and]
    omega
theorem upAt_all : ∀ (L : List Tk0), L ≠ [] → upAt L L.length = (jn (L.map Tk0.text)).length + 1
  | [], h => absurd rfl h
  | [t], _ => by simp [upAt, jn]
  | t :: u :: r, _ => by
    have := upAt_all (u :: r) (by simp)
    rw [List.length_cons, upAt_cons, this]
    show _ = (t.text ++ 32 :: jn ((u :: r).map Tk0.text)).length + 1
    rw [List.length_append, List.length_cons]
    omega
theorem jn_nil_iff {L : List Tk0} (h : ∀ t ∈ L, t.ok) : jn (L.map Tk0.text) = [] ↔ L = [] := by
  constructor
  · intro e
    match L, h, e with
    | [], _, _ => rfl
    | [t], h, e =>
      have := (next_len (h t (by simp))).1
      have e : t.text = [] := e
      rw [e] at this
      simp at this
    | t :: u :: r, h, e =>
      have e : t.text ++ 32 :: jn ((u :: r).map Tk0.text) = [] := e
      simp at e
  · rintro rfl; rfl

/-- What kinds of tokens there are, and how long they are. -/
theorem next_len_le {l : List B} {k n : Int} {j : Nat} (h : next l = .tok k n j) : j ≤ 24 ∨ (k = 1 ∧ number (l.take j) = some n) := by
  cases l with
  | nil => rw [next_nil] at h; cases h
  | cons c r =>
    by_cases ha : (small (peek (c :: r) 0) || capital (peek (c :: r) 0)) = true
    · rw [next_name ha] at h
      exact .inl (nextName_len h).2
    · have ha' : (small (peek (c :: r) 0) || capital (peek (c :: r) 0)) = false := by simpa using ha
      by_cases hb : peek (c :: r) 0 = 39 ∧ small (peek (c :: r) 1) = true
      · rw [next_var ha' hb.1 hb.2] at h
        exact .inl (nextVar_len h).2
      · by_cases hc : peek (c :: r) 0 = 126 ∨ digit (peek (c :: r) 0) = true
        · rw [next_num ha' hb hc] at h
          have hj := nextNum_len h
          unfold nextNum at h
          simp only at h
          rw [← hj] at h
          cases hn : number ((c :: r).take j) with
          | none => rw [hn] at h; cases h
          | some i =>
            rw [hn] at h
            simp only at h
            split at h
            · cases h
            · cases h; exact .inr ⟨rfl, rfl⟩
        · rw [next_sign ha' hb hc] at h
          split at h
          · cases h; exact .inl (by decide)
          · split at h
            · cases h; exact .inl (by decide)
            · cases h
theorem tok_len {t : Tk0} (h : t.ok) : t.text.length ≤ 24 := by
  rcases next_len_le h with h' | ⟨_, h'⟩
  · exact h'
  · rw [List.take_length] at h'
    obtain ⟨⟨f1, f2⟩, hd⟩ := number_is h'
    rw [← hd]
    unfold digits
    split
    · have := dec_len t.num.natAbs (by omega)
      simp only [List.length_cons]
      omega
    · have := dec_len t.num.toNat (by omega)
      omega
/-- The kind of a token says whether it is an integer. -/
theorem next_kind {l : List B} {k n : Int} {j : Nat} (h : next l = .tok k n j) : 1 ≤ k ∧ k ≤ 6 ∧ (k = 1 → number (l.take j) = some n) ∧ (k ≠ 1 → n = 0) := by
  cases l with
  | nil => rw [next_nil] at h; cases h
  | cons c r =>
    by_cases ha : (small (peek (c :: r) 0) || capital (peek (c :: r) 0)) = true
    · rw [next_name ha] at h
      unfold nextName at h
      simp only at h
      split at h
      · cases h
      · split at h
        · cases h; refine ⟨by decide, by decide, fun e => absurd e (by decide), fun _ => rfl⟩
        · split at h <;> (cases h; refine ⟨by decide, by decide, fun e => absurd e (by decide), fun _ => rfl⟩)
    · have ha' : (small (peek (c :: r) 0) || capital (peek (c :: r) 0)) = false := by simpa using ha
      by_cases hb : peek (c :: r) 0 = 39 ∧ small (peek (c :: r) 1) = true
      · rw [next_var ha' hb.1 hb.2] at h
        unfold nextVar at h
        simp only at h
        split at h
        · cases h
        · cases h; refine ⟨by decide, by decide, fun e => absurd e (by decide), fun _ => rfl⟩
      · by_cases hc : peek (c :: r) 0 = 126 ∨ digit (peek (c :: r) 0) = true
        · rw [next_num ha' hb hc] at h
          have hj := nextNum_len h
          unfold nextNum at h
          simp only at h
          rw [← hj] at h
          cases hn : number ((c :: r).take j) with
          | none => rw [hn] at h; cases h
          | some i =>
            rw [hn] at h
            simp only at h
            split at h
            · cases h
            · cases h; exact ⟨by decide, by decide, fun _ => rfl, fun e => absurd rfl e⟩
        · rw [next_sign ha' hb hc] at h
          split at h
          · cases h; refine ⟨by decide, by decide, fun e => absurd e (by decide), fun _ => rfl⟩
          · split at h
            · cases h; refine ⟨by decide, by decide, fun e => absurd e (by decide), fun _ => rfl⟩
            · cases h
end Lx
