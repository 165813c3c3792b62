/- The reference's reader, whole: what it reads is the next token, or an error. -/
import Derived.Test.YtdchnjijdkgfhaaGreatDoorRefNames
import Derived.Test.YtdchnjijdkgfhaaGreatDoorRefVars
import Derived.Test.YtdchnjijdkgfhaaGreatDoorRefNums
namespace Go.Proofs.YtdchnjijdkgfhaaGreatDoor
open Go.RowKit

/-- What the reference's reader hands back of what is next. -/
def readV (s : ByteArray) (i : Nat) : Lx.Next → Value
  | .tok k n j => .tuple #[tokV k n (s.extract i (i + j)) i, .int .i64 0]
  | .err x => .tuple #[tokV 0 0 ⟨#[]⟩ 0, .int .i64 x]

theorem small_facts {c : UInt8} (h : Lx.small c = true) : ((c.toNat : Int) == 126) = false ∧ Lx.digit c = false ∧ ((c.toNat : Int) == 39) = false ∧ Lx.capital c = false := by
  simp only [Lx.small, Lx.digit, Lx.capital, Bool.and_eq_true, decide_eq_true_eq] at *
  refine ⟨beq_eq_false_iff_ne.2 (by omega), ?_, beq_eq_false_iff_ne.2 (by omega), ?_⟩
  · rw [Bool.eq_false_iff]; simp only [ne_eq, Bool.and_eq_true, decide_eq_true_eq]; omega
  · rw [Bool.eq_false_iff]; simp only [ne_eq, Bool.and_eq_true, decide_eq_true_eq]; omega
theorem capital_facts {c : UInt8} (h : Lx.capital c = true) : ((c.toNat : Int) == 126) = false ∧ Lx.digit c = false ∧ ((c.toNat : Int) == 39) = false ∧ Lx.small c = false := by
  simp only [Lx.small, Lx.digit, Lx.capital, Bool.and_eq_true, decide_eq_true_eq] at *
  refine ⟨beq_eq_false_iff_ne.2 (by omega), ?_, beq_eq_false_iff_ne.2 (by omega), ?_⟩
  · rw [Bool.eq_false_iff]; simp only [ne_eq, Bool.and_eq_true, decide_eq_true_eq]; omega
  · rw [Bool.eq_false_iff]; simp only [ne_eq, Bool.and_eq_true, decide_eq_true_eq]; omega
theorem quote_facts : ((((39 : UInt8)).toNat : Int) == 126) = false ∧ Lx.digit 39 = false ∧ Lx.small 39 = false ∧ Lx.capital 39 = false := by decide

theorem extract_rest (s : ByteArray) (i j : Nat) : (s.extract i (i + j)).data.toList = (rest s i).take j := extract_take s i j

theorem readR_name (s : ByteArray) (hs : s.size ≤ 140737488355328) (i : Nat) (hi : i < s.size) (h : (Lx.small s[i] || Lx.capital s[i]) = true) (w : World) :
    Calls Tryz.prog 37 #[.string s, .int .i64 i] w fun e w' => e = .returned (readV s i (Lx.nextName (rest s i))) ∧ Old w w' := by
  have hp0 : Lx.peek (rest s i) 0 = s[i] := peek_in (p := i) (n := 0) hi
  have hle : i + Lx.nameLen (rest s i) ≤ s.size := by have := Lx.nameLen_le (rest s i); rw [rest_length] at this; omega
  unfold Lx.nextName
  simp only
  rw [hp0, ← extract_rest]
  obtain ⟨j, hj⟩ : ∃ j, Lx.nameLen (rest s i) = j := ⟨_, rfl⟩
  have hJ : Hid (i + Lx.nameLen (rest s i) = i + j) := Lib.hid (by rw [hj])
  rw [hj] at hle ⊢
  cases hsm : Lx.small s[i]
  · rw [hsm, Bool.false_or] at h
    obtain ⟨a1, a2, a3, _⟩ := capital_facts h
    by_cases h24 : 24 < j
    · rw [if_pos h24]
      exact read_cap_long s hs i hi a1 (Lib.hid a2) a3 (Lib.hid hsm) (Lib.hid h) (i + j) hJ (by omega) hle (by omega) w
    · rw [if_neg h24, if_pos h]
      exact read_cap_con s hs i hi a1 (Lib.hid a2) a3 (Lib.hid hsm) (Lib.hid h) (i + j) hJ (by omega) hle (by omega) w
  · obtain ⟨a1, a2, a3, a4⟩ := small_facts hsm
    by_cases h24 : 24 < j
    · rw [if_pos h24]
      exact read_small_long s hs i hi a1 (Lib.hid a2) a3 (Lib.hid hsm) (Lib.hid a4) (i + j) hJ (by omega) hle (by omega) w
    · rw [if_neg h24, if_neg (by rw [a4]; exact Bool.false_ne_true)]
      cases hw : Lx.isWord (s.extract i (i + j)).data.toList
      · rw [if_neg Bool.false_ne_true]
        exact read_small_name s hs i hi a1 (Lib.hid a2) a3 (Lib.hid hsm) (Lib.hid a4) (i + j) hJ (by omega) hle (by omega) (Lib.hid hw) w
      · rw [if_pos rfl]
        exact read_small_word s hs i hi a1 (Lib.hid a2) a3 (Lib.hid hsm) (Lib.hid a4) (i + j) hJ (by omega) hle (by omega) (Lib.hid hw) w

theorem readR_var (s : ByteArray) (hs : s.size ≤ 140737488355328) (i : Nat) (hi : i < s.size) (h : s[i] = 39) (hq : i + 1 < s.size) (hsq : Lx.small s[i + 1] = true) (w : World) :
    Calls Tryz.prog 37 #[.string s, .int .i64 i] w fun e w' => e = .returned (readV s i (Lx.nextVar (rest s i))) ∧ Old w w' := by
  have hle : i + (1 + Lx.span Lx.part (rest s (i + 1))) ≤ s.size := by have := Lx.span_le Lx.part (rest s (i + 1)); rw [rest_length] at this; omega
  obtain ⟨a1, a2, a3, a4⟩ := quote_facts
  rw [← h] at a1 a2 a3 a4
  have b39 : ((s[i].toNat : Int) == 39) = true := by rw [h]; decide
  unfold Lx.nextVar
  simp only
  rw [rest_drop]
  obtain ⟨j, hj⟩ : ∃ j, 1 + Lx.span Lx.part (rest s (i + 1)) = j := ⟨_, rfl⟩
  have hJ : Hid (i + 1 + Lx.span Lx.part (rest s (i + 1)) = i + j) := Lib.hid (by omega)
  rw [hj] at hle ⊢
  by_cases h24 : 24 < j
  · rw [if_pos h24]
    exact read_var_long s hs i hi a1 (Lib.hid a2) b39 hq (Lib.hid hsq) (i + j) hJ (by omega) hle (by omega) w
  · rw [if_neg h24]
    exact read_var_fit s hs i hi a1 (Lib.hid a2) b39 hq (Lib.hid hsq) (i + j) hJ (by omega) hle (by omega) w

theorem readR_num (s : ByteArray) (hs : s.size ≤ 140737488355328) (i : Nat) (hi : i < s.size) (h : s[i] = 126 ∨ Lx.digit s[i] = true) (w : World) :
    Calls Tryz.prog 37 #[.string s, .int .i64 i] w fun e w' => e = .returned (readV s i (Lx.nextNum (rest s i))) ∧ Old w w' := by
  have hp0 : Lx.peek (rest s i) 0 = s[i] := peek_in (p := i) (n := 0) hi
  obtain ⟨j, hj⟩ : ∃ j, Lx.numLen (rest s i) = j := ⟨_, rfl⟩
  have hle : i + j ≤ s.size := by
    have := Lx.numLen_le (l := rest s i) (by intro e; have := rest_length s i; rw [e, List.length_nil] at this; omega)
    rw [rest_length, hj] at this
    omega
  unfold Lx.nextNum
  simp only
  rw [hj, ← extract_rest]
  have hpj : Lx.peek (rest s i) j = Lx.peek (rest s (i + j)) 0 := (rest_peek s i j 0).symm
  rw [hpj]
  cases h126 : ((s[i].toNat : Int) == 126)
  · have hne : s[i] ≠ 126 := by
      intro e
      rw [e] at h126
      cases h126
    have hdg := h.resolve_left hne
    have hJ : Hid (i + Lx.span Lx.digit (rest s i) = i + j) := Lib.hid (by
      rw [← hj]; unfold Lx.numLen; rw [hp0, if_neg hne])
    by_cases hend : i + j < s.size
    · have hpe : Lx.peek (rest s (i + j)) 0 = s[i + j] := peek_in (p := i + j) (n := 0) hend
      rw [hpe]
      cases ho : Lx.number (s.extract i (i + j)).data.toList with
      | none => exact read_num_pos_in_none s hs i hi h126 (Lib.hid hdg) (i + j) hJ (by omega) hle hend (Lib.hid ho) w
      | some n =>
        simp only
        cases hpt : Lx.part s[i + j]
        · cases hqt : ((s[i + j].toNat : Int) == 39)
          · rw [if_neg (by have := u8_beq s[i + j] 39 (by decide); rw [show ((s[i + j].toNat : Int) == ((39 : Nat) : Int)) = false from hqt] at this; rw [Bool.false_or, ← show _ = decide (s[i + j] = 39) from this]; exact Bool.false_ne_true)]
            exact read_num_pos_in_ok s hs i hi h126 (Lib.hid hdg) (i + j) hJ (by omega) hle hend n (Lib.hid ho) (Lib.hid hpt) hqt w
          · rw [if_pos (by have := u8_beq s[i + j] 39 (by decide); rw [show ((s[i + j].toNat : Int) == ((39 : Nat) : Int)) = true from hqt] at this; rw [Bool.false_or, ← show _ = decide (s[i + j] = 39) from this])]
            exact read_num_pos_in_quote s hs i hi h126 (Lib.hid hdg) (i + j) hJ (by omega) hle hend n (Lib.hid ho) (Lib.hid hpt) hqt w
        · rw [if_pos (by rw [Bool.true_or])]
          exact read_num_pos_in_part s hs i hi h126 (Lib.hid hdg) (i + j) hJ (by omega) hle hend n (Lib.hid ho) (Lib.hid hpt) w
    · have hpe : Lx.peek (rest s (i + j)) 0 = 0 := peek_out (p := i + j) (n := 0) (by omega)
      rw [hpe]
      cases ho : Lx.number (s.extract i (i + j)).data.toList with
      | none => exact read_num_pos_end_none s hs i hi h126 (Lib.hid hdg) (i + j) hJ (by omega) hle (by omega) (Lib.hid ho) w
      | some n =>
        simp only
        rw [if_neg (by decide)]
        exact read_num_pos_end_ok s hs i hi h126 (Lib.hid hdg) (i + j) hJ (by omega) hle (by omega) n (Lib.hid ho) w
  · have he : s[i] = 126 := by
      have := u8_beq s[i] 126 (by decide)
      rw [show ((s[i].toNat : Int) == ((126 : Nat) : Int)) = true from h126] at this
      simpa using this.symm
    have hJ : Hid (i + 1 + Lx.span Lx.digit (rest s (i + 1)) = i + j) := Lib.hid (by
      rw [← hj]; unfold Lx.numLen; rw [hp0, if_pos he, rest_drop]; omega)
    have hle1 : i + 1 ≤ i + j := by have := hJ.out; omega
    by_cases hend : i + j < s.size
    · have hpe : Lx.peek (rest s (i + j)) 0 = s[i + j] := peek_in (p := i + j) (n := 0) hend
      rw [hpe]
      cases ho : Lx.number (s.extract i (i + j)).data.toList with
      | none => exact read_num_neg_in_none s hs i hi h126 (i + j) hJ hle1 hle hend (Lib.hid ho) w
      | some n =>
        simp only
        cases hpt : Lx.part s[i + j]
        · cases hqt : ((s[i + j].toNat : Int) == 39)
          · rw [if_neg (by have := u8_beq s[i + j] 39 (by decide); rw [show ((s[i + j].toNat : Int) == ((39 : Nat) : Int)) = false from hqt] at this; rw [Bool.false_or, ← show _ = decide (s[i + j] = 39) from this]; exact Bool.false_ne_true)]
            exact read_num_neg_in_ok s hs i hi h126 (i + j) hJ hle1 hle hend n (Lib.hid ho) (Lib.hid hpt) hqt w
          · rw [if_pos (by have := u8_beq s[i + j] 39 (by decide); rw [show ((s[i + j].toNat : Int) == ((39 : Nat) : Int)) = true from hqt] at this; rw [Bool.false_or, ← show _ = decide (s[i + j] = 39) from this])]
            exact read_num_neg_in_quote s hs i hi h126 (i + j) hJ hle1 hle hend n (Lib.hid ho) (Lib.hid hpt) hqt w
        · rw [if_pos (by rw [Bool.true_or])]
          exact read_num_neg_in_part s hs i hi h126 (i + j) hJ hle1 hle hend n (Lib.hid ho) (Lib.hid hpt) w
    · have hpe : Lx.peek (rest s (i + j)) 0 = 0 := peek_out (p := i + j) (n := 0) (by omega)
      rw [hpe]
      cases ho : Lx.number (s.extract i (i + j)).data.toList with
      | none => exact read_num_neg_end_none s hs i hi h126 (i + j) hJ hle1 hle (by omega) (Lib.hid ho) w
      | some n =>
        simp only
        rw [if_neg (by decide)]
        exact read_num_neg_end_ok s hs i hi h126 (i + j) hJ hle1 hle (by omega) n (Lib.hid ho) w

theorem signLen_le (s : ByteArray) (i : Nat) (hi : i < s.size) : i + Lx.signLen (rest s i) ≤ s.size := by
  unfold Lx.signLen
  split
  · rename_i h
    have := peek_lt (l := rest s i) (k := 1) (by rw [h.2]; decide)
    rw [rest_length] at this
    omega
  · split <;> omega

theorem readR_sign (s : ByteArray) (hs : s.size ≤ 140737488355328) (i : Nat) (hi : i < s.size) (h126 : s[i] ≠ 126) (hdg : Lx.digit s[i] = false) (hsm : Lx.small s[i] = false) (hcp : Lx.capital s[i] = false) (h39 : ¬ (Lx.peek (rest s i) 0 = 39 ∧ Lx.small (Lx.peek (rest s i) 1) = true)) (w : World) :
    Calls Tryz.prog 37 #[.string s, .int .i64 i] w fun e w' => e = .returned (readV s i (if Lx.signLen (rest s i) = 0 then .err 11 else .tok 6 0 (Lx.signLen (rest s i)))) ∧ Old w w' := by
  have hp0 : Lx.peek (rest s i) 0 = s[i] := peek_in (p := i) (n := 0) hi
  have b126 : ((s[i].toNat : Int) == 126) = false := by
    have := u8_beq s[i] 126 (by decide)
    exact this.trans (by simpa using h126)
  have hle := signLen_le s i hi
  obtain ⟨N, hN⟩ : ∃ N, Lx.signLen (rest s i) = N := ⟨_, rfl⟩
  rw [hN] at hle ⊢
  cases b39 : ((s[i].toNat : Int) == 39)
  · by_cases h0 : N = 0
    · subst h0
      exact read_sign_bare_none s hs i hi b126 (Lib.hid hdg) b39 (Lib.hid hsm) (Lib.hid hcp) (Lib.hid hN) w
    · rw [if_neg h0]
      exact read_sign_bare_some s hs i hi b126 (Lib.hid hdg) b39 (Lib.hid hsm) (Lib.hid hcp) N (Lib.hid hN) (by omega) hle w
  · have he : s[i] = 39 := by
      have := u8_beq s[i] 39 (by decide)
      rw [show ((s[i].toNat : Int) == ((39 : Nat) : Int)) = true from b39] at this
      simpa using this.symm
    by_cases hq : i + 1 < s.size
    · have hp1 : Lx.peek (rest s i) 1 = s[i + 1] := peek_in (p := i) (n := 1) hq
      have hsq : Lx.small s[i + 1] = false := by
        cases hx : Lx.small s[i + 1]
        · rfl
        · exact absurd ⟨hp0.trans he, by rw [hp1]; exact hx⟩ h39
      by_cases h0 : N = 0
      · subst h0
        exact read_sign_quote_none s hs i hi b126 (Lib.hid hdg) b39 hq (Lib.hid hsq) (Lib.hid hsm) (Lib.hid hcp) (Lib.hid hN) w
      · rw [if_neg h0]
        exact read_sign_quote_some s hs i hi b126 (Lib.hid hdg) b39 hq (Lib.hid hsq) (Lib.hid hsm) (Lib.hid hcp) N (Lib.hid hN) (by omega) hle w
    · by_cases h0 : N = 0
      · subst h0
        exact read_sign_end_none s hs i hi b126 (Lib.hid hdg) b39 hq (Lib.hid hsm) (Lib.hid hcp) (Lib.hid hN) w
      · rw [if_neg h0]
        exact read_sign_end_some s hs i hi b126 (Lib.hid hdg) b39 hq (Lib.hid hsm) (Lib.hid hcp) N (Lib.hid hN) (by omega) hle w

theorem readR_any (s : ByteArray) (hs : s.size ≤ 140737488355328) (i : Nat) (hi : i < s.size) (w : World) :
    Calls Tryz.prog 37 #[.string s, .int .i64 i] w fun e w' => e = .returned (readV s i (Lx.next (rest s i))) ∧ Old w w' := by
  have hp0 : Lx.peek (rest s i) 0 = s[i] := peek_in (p := i) (n := 0) hi
  cases hn : (Lx.small s[i] || Lx.capital s[i])
  · have hn' : (Lx.small (Lx.peek (rest s i) 0) || Lx.capital (Lx.peek (rest s i) 0)) = false := by rw [hp0]; exact hn
    rw [Bool.or_eq_false_iff] at hn
    by_cases h39 : Lx.peek (rest s i) 0 = 39 ∧ Lx.small (Lx.peek (rest s i) 1) = true
    · rw [Lx.next_var hn' h39.1 h39.2]
      have hq : i + 1 < s.size := by
        have := peek_lt (l := rest s i) (k := 1) (by intro e; rw [e] at h39; exact absurd h39.2 (by decide))
        rw [rest_length] at this
        omega
      have hp1 : Lx.peek (rest s i) 1 = s[i + 1] := peek_in (p := i) (n := 1) hq
      exact readR_var s hs i hi (hp0 ▸ h39.1) hq (hp1 ▸ h39.2) w
    · by_cases hnum : Lx.peek (rest s i) 0 = 126 ∨ Lx.digit (Lx.peek (rest s i) 0) = true
      · rw [Lx.next_num hn' h39 hnum]
        exact readR_num s hs i hi (hp0 ▸ hnum) w
      · rw [Lx.next_sign hn' h39 hnum]
        have h1 : ¬ (s[i] = 126 ∨ Lx.digit s[i] = true) := hp0 ▸ hnum
        have key : (if (Lx.peek (rest s i) 0 = 61 ∨ Lx.peek (rest s i) 0 = 45) ∧ Lx.peek (rest s i) 1 = 62 then Lx.Next.tok 6 0 2 else if Lx.sign1.contains (Lx.peek (rest s i) 0) then Lx.Next.tok 6 0 1 else Lx.Next.err 11) = (if Lx.signLen (rest s i) = 0 then .err 11 else .tok 6 0 (Lx.signLen (rest s i))) := by
          unfold Lx.signLen
          split
          · rfl
          · split
            · rfl
            · rfl
        rw [key]
        exact readR_sign s hs i hi (fun e => h1 (.inl e)) (by cases hx : Lx.digit s[i]; rfl; exact absurd (.inr hx) h1) hn.1 hn.2 h39 w
  · rw [Lx.next_name (by rw [hp0]; exact hn)]
    exact readR_name s hs i hi hn w
end Go.Proofs.YtdchnjijdkgfhaaGreatDoor
