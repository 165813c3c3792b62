/- Which integers are read as which numerals: both ways. No program stands here. -/
import Derived.Test.YtdchnjijdkgfhaaGreatDoorNextPure
namespace Lx
open Go.Lib

theorem u8_of (k : Nat) (h : k < 10) : (UInt8.ofNat (48 + k)).toNat = 48 + k := by rw [UInt8.toNat_ofNat']; omega
theorem dec_small {u : Nat} (h : u < 10) : decDigits u = [UInt8.ofNat (48 + u)] := by rw [decDigits, dif_pos h]
theorem dec_big {u : Nat} (h : ¬ u < 10) : decDigits u = decDigits (u / 10) ++ [UInt8.ofNat (48 + u % 10)] := by rw [decDigits, dif_neg h]
theorem dec_ne (u : Nat) : decDigits u ≠ [] := by
  by_cases h : u < 10
  · rw [dec_small h]; simp
  · rw [dec_big h]; simp
theorem dec_digit (u : Nat) : ∀ c ∈ decDigits u, digit c = true := by
  induction u using Nat.strongRecOn with
  | _ u ih =>
    intro c hc
    by_cases h : u < 10
    · rw [dec_small h] at hc
      simp only [List.mem_singleton] at hc
      subst hc
      simp [digit, u8_of u h]; omega
    · rw [dec_big h, List.mem_append] at hc
      rcases hc with hc | hc
      · exact ih _ (by omega) c hc
      · simp only [List.mem_singleton] at hc
        subst hc
        simp [digit, u8_of (u % 10) (by omega)]; omega

theorem parse_dec (u : Nat) : u < 18446744073709551616 → ∀ r, parseUint10 0 (decDigits u ++ r) = parseUint10 u r := by
  induction u using Nat.strongRecOn with
  | _ u ih =>
    intro hu r
    by_cases h : u < 10
    · rw [dec_small h]
      show parseUint10 0 (UInt8.ofNat (48 + u) :: r) = _
      rw [parseUint10, u8_of u h, if_pos (by omega), if_neg (by omega), if_neg (by omega)]
      congr 1
      omega
    · rw [dec_big h, List.append_assoc, ih (u / 10) (by omega) (by omega)]
      show parseUint10 (u / 10) (UInt8.ofNat (48 + u % 10) :: r) = _
      rw [parseUint10, u8_of (u % 10) (by omega), if_pos (by omega), if_neg (by omega), if_neg (by omega)]
      congr 1
      omega

theorem mag_dec {u : Nat} (h : u < 18446744073709551616) : parseMag (decDigits u) = .ok u := by
  unfold parseMag
  rw [if_neg (dec_ne u)]
  have := parse_dec u h []
  rwa [List.append_nil, parseUint10] at this

theorem number_digits {n : Int} (h : fits n) : number (digits n) = some n := by
  unfold fits at h
  by_cases hn : n < 0
  · have hd : digits n = 126 :: decDigits n.natAbs := by unfold digits; rw [if_pos hn]
    have hc : atoiAll (conv (digits n)) = .ok n := by
      rw [hd]
      show atoiAll (45 :: decDigits n.natAbs) = _
      rw [atoiAll_minus, mag_dec (by omega)]
      unfold signed
      simp only
      rw [if_neg (by omega)]
      congr 1
      omega
    unfold number
    rw [hc]
    simp only
    rw [if_pos trivial]
  · have hd : digits n = decDigits n.toNat := by unfold digits; rw [if_neg hn]
    have hc : atoiAll (conv (digits n)) = .ok n := by
      rw [hd]
      cases hl : decDigits n.toNat with
      | nil => exact absurd hl (dec_ne _)
      | cons c r =>
        have hdc := dec_digit n.toNat c (by rw [hl]; simp)
        have hb : 48 ≤ c.toNat ∧ c.toNat ≤ 57 := by simpa [digit] using hdc
        have h126 : ¬ c = 126 := by rintro rfl; exact absurd hdc (by decide)
        have hcv : conv (c :: r) = c :: r := if_neg h126
        rw [hcv, atoiAll_plain c r (by omega) (by omega), ← hl, mag_dec (by omega)]
        unfold signless
        simp only
        rw [if_neg (by omega)]
        congr 1
        omega
    unfold number
    rw [hc]
    simp only
    rw [if_pos trivial]

theorem number_is {l : List B} {n : Int} (h : number l = some n) : fits n ∧ digits n = l := by
  unfold number at h
  split at h
  · rename_i v ha
    split at h
    · rename_i hd
      cases h
      exact ⟨atoiAll_bounds ha, hd⟩
    · cases h
  · cases h

theorem number_iff {l : List B} {n : Int} : number l = some n ↔ fits n ∧ digits n = l :=
  ⟨number_is, fun h => h.2 ▸ number_digits h.1⟩

/-- The reference's way: digit by digit, below 0. -/
def goDown (n : Int) : List B → Option Int
  | [] => some n
  | c :: r => if digit c then (if n < (-9223372036854775808 + ((c.toNat : Int) - 48)).tdiv 10 then none else goDown (10 * n - ((c.toNat : Int) - 48)) r) else none

/-- What is not below is a product and a digit that fit. -/
theorem down_fits {n d : Int} (h0 : n ≤ 0) (hd : 0 ≤ d ∧ d ≤ 9) : ¬ n < (-9223372036854775808 + d).tdiv 10 ↔ -9223372036854775808 ≤ 10 * n - d := by
  have e : (-9223372036854775808 + d).tdiv 10 = -((9223372036854775808 - d) / 10) := by
    rw [show (-9223372036854775808 + d : Int) = -(9223372036854775808 - d) from by omega, Int.neg_tdiv, Int.tdiv_eq_ediv_of_nonneg (by omega)]
  rw [e]
  omega

def val (a : Nat) (l : List B) : Nat := l.foldl (fun a c => 10 * a + (c.toNat - 48)) a

theorem goDown_some : ∀ (l : List B) (a : Nat) (m : Int), goDown (-(a : Int)) l = some m → (a : Int) ≤ 9223372036854775808 → (∀ c ∈ l, digit c = true) ∧ m = -(val a l : Int) ∧ val a l ≤ 9223372036854775808 := by
  intro l
  induction l with
  | nil => intro a m h ha; cases h; exact ⟨by simp, rfl, by show a ≤ _; omega⟩
  | cons c r ih =>
    intro a m h ha
    rw [goDown] at h
    split at h
    · rename_i hc
      have hb : 48 ≤ c.toNat ∧ c.toNat ≤ 57 := by simpa [digit] using hc
      split at h
      · cases h
      · rename_i hn
        rw [down_fits (by omega) (by omega)] at hn
        have e : 10 * -(a : Int) - ((c.toNat : Int) - 48) = -((10 * a + (c.toNat - 48) : Nat) : Int) := by omega
        rw [e] at h
        obtain ⟨h1, h2, h3⟩ := ih _ _ h (by omega)
        exact ⟨fun x hx => by rcases List.mem_cons.1 hx with rfl | hx; exact hc; exact h1 x hx, h2, h3⟩
    · cases h

theorem goDown_dec (u : Nat) : u ≤ 9223372036854775808 → ∀ r, goDown 0 (decDigits u ++ r) = goDown (-(u : Int)) r := by
  induction u using Nat.strongRecOn with
  | _ u ih =>
    intro hu r
    by_cases h : u < 10
    · rw [dec_small h]
      show goDown 0 (UInt8.ofNat (48 + u) :: r) = _
      have hd := dec_digit u (UInt8.ofNat (48 + u)) (by rw [dec_small h]; simp)
      rw [goDown, if_pos hd, u8_of u h, if_neg ((down_fits (by omega) (by omega)).2 (by omega))]
      congr 1
      omega
    · have hd := dec_digit u (UInt8.ofNat (48 + u % 10)) (by rw [dec_big h]; simp)
      rw [dec_big h, List.append_assoc, ih (u / 10) (by omega) (by omega)]
      show goDown (-((u / 10 : Nat) : Int)) (UInt8.ofNat (48 + u % 10) :: r) = _
      rw [goDown, if_pos hd, u8_of (u % 10) (by omega), if_neg ((down_fits (by omega) (by omega)).2 (by omega))]
      congr 1
      omega

theorem val_snoc (a : Nat) (l : List B) (c : B) : val a (l ++ [c]) = 10 * val a l + (c.toNat - 48) := by unfold val; rw [List.foldl_append]; rfl
theorem val_mono (l : List B) : ∀ a, a ≤ val a l := by
  induction l with
  | nil => intro a; exact Nat.le_refl _
  | cons c r ih => intro a; exact Nat.le_trans (by omega) (ih (10 * a + (c.toNat - 48)))
theorem u8_back {c : B} (h : 48 ≤ c.toNat) : UInt8.ofNat (48 + (c.toNat - 48)) = c := by
  rw [show 48 + (c.toNat - 48) = c.toNat from by omega]; exact UInt8.ofNat_toNat

/-- Digits without a zero ahead are the numeral of their value. -/
theorem dec_val : ∀ (m : Nat) (c : B) (r : List B), r.length ≤ m → (∀ x ∈ c :: r, digit x = true) → (c ≠ 48 ∨ r = []) → decDigits (val 0 (c :: r)) = c :: r := by
  intro m
  induction m with
  | zero =>
    intro c r hr hd _
    obtain rfl : r = [] := List.eq_nil_of_length_eq_zero (by omega)
    have hc : 48 ≤ c.toNat ∧ c.toNat ≤ 57 := by simpa [digit] using hd c (by simp)
    have hv : val 0 [c] = c.toNat - 48 := by show 10 * 0 + (c.toNat - 48) = _; omega
    rw [hv, dec_small (by omega), u8_back hc.1]
  | succ m ih =>
    intro c r hr hd h0
    rcases List.eq_nil_or_concat r with rfl | ⟨r', x, rfl⟩
    · have hc : 48 ≤ c.toNat ∧ c.toNat ≤ 57 := by simpa [digit] using hd c (by simp)
      have hv : val 0 [c] = c.toNat - 48 := by show 10 * 0 + (c.toNat - 48) = _; omega
      rw [hv, dec_small (by omega), u8_back hc.1]
    · rw [List.concat_eq_append] at *
      have hc : 48 ≤ c.toNat ∧ c.toNat ≤ 57 := by simpa [digit] using hd c (by simp)
      have hx : 48 ≤ x.toNat ∧ x.toNat ≤ 57 := by simpa [digit] using hd x (by simp)
      have hc0 : c ≠ 48 := h0.resolve_right (by simp)
      have hc1 : 49 ≤ c.toNat := by
        rcases Nat.lt_or_ge 48 c.toNat with h | h
        · exact h
        · exact absurd (UInt8.toNat_inj.1 (show c.toNat = (48 : UInt8).toNat by show _ = 48; omega)) hc0
      have hi := ih c r' (by simp at hr; omega) (fun y hy => hd y (by
        rcases List.mem_cons.1 hy with rfl | hy
        · simp
        · simp [hy])) (.inl hc0)
      have hv : 1 ≤ val 0 (c :: r') := by
        have := val_mono r' (10 * 0 + (c.toNat - 48))
        show 1 ≤ val (10 * 0 + (c.toNat - 48)) r'
        omega
      rw [← List.cons_append, val_snoc, dec_big (by omega)]
      rw [show (10 * val 0 (c :: r') + (x.toNat - 48)) / 10 = val 0 (c :: r') from by omega, show (10 * val 0 (c :: r') + (x.toNat - 48)) % 10 = x.toNat - 48 from by omega, hi, u8_back hx.1]

/-- The reference's Number. -/
def refNum (l : List B) : Option Int :=
  let neg := peek l 0 = 126
  let r := if neg then l.drop 1 else l
  if r = [] ∨ 30 < l.length ∨ (peek r 0 = 48 ∧ 1 < l.length) then none
  else match goDown 0 r with
    | none => none
    | some m => if neg then some m else if m = -9223372036854775808 then none else some (-m)

theorem dec_len (u : Nat) (h : u ≤ 9223372036854775808) : (decDigits u).length ≤ 19 := by
  rw [decDigits_length]
  have h1 : ∀ (k u : Nat), u < 10 ^ (k + 1) → nDigits u ≤ k + 1 := by
    intro k
    induction k with
    | zero => intro u h; rw [nDigits_small (by simpa using h)]; exact Nat.le_refl _
    | succ k ih =>
      intro u h
      by_cases hu : u < 10
      · rw [nDigits_small hu]; omega
      · rw [nDigits_big hu]
        have := ih (u / 10) (by rw [Nat.pow_succ] at h; omega)
        omega
  exact h1 18 u (Nat.lt_of_le_of_lt h (by decide))

theorem dec_head {u : Nat} {c : B} {r : List B} (h : decDigits u = c :: r) (hu : 10 ≤ u) : c ≠ 48 := by
  induction u using Nat.strongRecOn generalizing c r with
  | _ u ih =>
    rw [dec_big (by omega)] at h
    by_cases h1 : u / 10 < 10
    · rw [dec_small h1] at h
      simp only [List.cons_append, List.cons.injEq] at h
      rintro rfl
      have := congrArg UInt8.toNat h.1
      rw [u8_of _ h1] at this
      have : (48 : UInt8).toNat = 48 := rfl
      omega
    · cases hd : decDigits (u / 10) with
      | nil => exact absurd hd (dec_ne _)
      | cons x y =>
        rw [hd] at h
        simp only [List.cons_append, List.cons.injEq] at h
        rw [← h.1]
        exact ih (u / 10) (by omega) hd (by omega)
theorem dec_one {u : Nat} {r : List B} (h : decDigits u = 48 :: r) : r = [] ∧ u = 0 := by
  by_cases hu : u < 10
  · rw [dec_small hu] at h
    simp only [List.cons.injEq] at h
    have := congrArg UInt8.toNat h.1
    rw [u8_of _ hu] at this
    have e : (48 : UInt8).toNat = 48 := rfl
    exact ⟨h.2.symm, by omega⟩
  · exact absurd rfl (dec_head h (by omega))

theorem refNum_is (l : List B) : refNum l = number l := by
  have key : ∀ n, refNum l = some n ↔ fits n ∧ digits n = l := by
    intro n
    constructor
    · intro h
      unfold refNum at h
      simp only at h
      by_cases hneg : peek l 0 = 126
      · simp only [if_pos hneg] at h
        cases l with
        | nil => exact absurd hneg (by decide)
        | cons c r =>
          have hc : c = 126 := hneg
          subst hc
          simp only [List.drop_succ_cons, List.drop_zero] at h
          split at h
          · cases h
          · rename_i hb
            cases r with
            | nil => exact absurd (.inl rfl) hb
            | cons d r =>
              have hd48 : d ≠ 48 := fun e => hb (.inr (.inr ⟨e, by simp⟩))
              cases hg : goDown 0 (d :: r) with
              | none => rw [hg] at h; cases h
              | some m =>
                rw [hg] at h
                simp only [Option.some.injEq] at h
                subst h
                obtain ⟨h1, h2, h3⟩ := goDown_some (d :: r) 0 m hg (by decide)
                have hv := dec_val r.length d r (Nat.le_refl _) h1 (.inl hd48)
                have hpos : val 0 (d :: r) ≠ 0 := fun e => by
                  rw [e, dec_small (by decide)] at hv
                  simp only [List.cons.injEq] at hv
                  exact hd48 (by rw [← hv.1]; rfl)
                refine ⟨⟨by omega, by omega⟩, ?_⟩
                unfold digits
                rw [if_pos (by omega), show m.natAbs = val 0 (d :: r) from by omega, hv]
      · simp only [if_neg hneg] at h
        split at h
        · cases h
        · rename_i hb
          cases l with
          | nil => exact absurd (.inl rfl) hb
          | cons d r =>
            have hd48 : d ≠ 48 ∨ r = [] := by
              by_cases e : d = 48
              · cases r with
                | nil => exact .inr rfl
                | cons x y => exact absurd (.inr (.inr ⟨e, by simp⟩)) hb
              · exact .inl e
            cases hg : goDown 0 (d :: r) with
            | none => rw [hg] at h; cases h
            | some m =>
              rw [hg] at h
              simp only at h
              split at h
              · cases h
              · rename_i hm
                simp only [Option.some.injEq] at h
                subst h
                obtain ⟨h1, h2, h3⟩ := goDown_some (d :: r) 0 m hg (by decide)
                have hv := dec_val r.length d r (Nat.le_refl _) h1 hd48
                refine ⟨⟨by omega, by omega⟩, ?_⟩
                unfold digits
                rw [if_neg (by omega), show (-m).toNat = val 0 (d :: r) from by omega, hv]
    · rintro ⟨⟨f1, f2⟩, hd⟩
      unfold digits at hd
      by_cases hn : n < 0
      · rw [if_pos hn] at hd
        subst hd
        have hl := dec_len n.natAbs (by omega)
        have hg := goDown_dec n.natAbs (by omega) []
        rw [List.append_nil] at hg
        unfold refNum
        simp only
        simp only [peek_cons, if_true]
        rw [List.drop_succ_cons, List.drop_zero, if_neg]
        · rw [hg]
          show some (-(n.natAbs : Int)) = _
          congr 1
          omega
        · rintro (e | e | ⟨e, _⟩)
          · exact dec_ne _ e
          · simp only [List.length_cons] at e; omega
          · cases hdd : decDigits n.natAbs with
            | nil => exact dec_ne _ hdd
            | cons c r =>
              rw [hdd] at e
              have e : c = 48 := e
              subst e
              have := (dec_one hdd).2
              omega
      · rw [if_neg hn] at hd
        subst hd
        have hl := dec_len n.toNat (by omega)
        have hg := goDown_dec n.toNat (by omega) []
        rw [List.append_nil] at hg
        have hp : ¬ peek (decDigits n.toNat) 0 = 126 := by
          cases hdd : decDigits n.toNat with
          | nil => exact fun e => absurd e (by decide)
          | cons c r =>
            rintro e
            have e : c = 126 := e
            have := dec_digit n.toNat c (by rw [hdd]; simp)
            subst e
            exact absurd this (by decide)
        unfold refNum
        simp only
        simp only [if_neg hp]
        rw [if_neg]
        · rw [hg]
          show (if -(n.toNat : Int) = -9223372036854775808 then none else some (-(-(n.toNat : Int)))) = _
          rw [if_neg (by omega)]
          congr 1
          omega
        · rintro (e | e | ⟨e, e1⟩)
          · exact dec_ne _ e
          · omega
          · cases hdd : decDigits n.toNat with
            | nil => exact dec_ne _ hdd
            | cons c r =>
              rw [hdd] at e e1
              have e : c = 48 := e
              subst e
              have := (dec_one hdd).1
              subst this
              simp at e1
  cases h : number l with
  | some n => exact (key n).2 (number_is h)
  | none =>
    cases h' : refNum l with
    | none => rfl
    | some n => rw [number_iff.2 ((key n).1 h')] at h; cases h
end Lx
