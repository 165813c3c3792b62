/- The next token, in the words of the plain function. -/
import Derived.Test.YtdchnjijdkgfhaaGreatDoorNext
namespace Go.Proofs.YtdchnjijdkgfhaaGreatDoor
open Go.RowKit

theorem capital_not_small {c : UInt8} (h : Lx.capital c = true) : Lx.small c = false := by
  unfold Lx.capital at h
  unfold Lx.small
  simp at h ⊢
  omega

theorem words_small : ∀ l ∈ Lx.words, Lx.small (Lx.peek l 0) = true := by decide

theorem isWord_small {l : List UInt8} (h : Lx.isWord l = true) : Lx.small (Lx.peek l 0) = true :=
  words_small l (by simpa [Lx.isWord] using h)

theorem peek_take {l : List UInt8} {n : Nat} (hn : 1 ≤ n) : Lx.peek (l.take n) 0 = Lx.peek l 0 := by
  unfold Lx.peek
  rw [List.getD_eq_getElem?_getD, List.getD_eq_getElem?_getD, List.getElem?_take, if_pos (by omega)]

theorem nameK_small {l : List UInt8} (h : Lx.small (Lx.peek l 0) = true) : nameK 2 l = Lx.next l := by
  rw [Lx.next_name (by rw [h]; rfl)]
  unfold nameK Lx.nextName
  simp only
  have hc : ¬ Lx.capital (Lx.peek l 0) = true := fun e => by rw [capital_not_small e] at h; cases h
  by_cases h1 : 24 < Lx.nameLen l
  · rw [if_pos h1, if_pos h1]
  · rw [if_neg h1, if_neg h1, if_neg hc]
    by_cases h2 : Lx.isWord (l.take (Lx.nameLen l)) = true
    · rw [if_pos h2, if_pos h2]
    · rw [if_neg h2, if_neg h2]

theorem nameK_capital {l : List UInt8} (h : Lx.capital (Lx.peek l 0) = true) : nameK 3 l = Lx.next l := by
  rw [Lx.next_name (by rw [h, Bool.or_true])]
  unfold nameK Lx.nextName
  simp only
  by_cases h1 : 24 < Lx.nameLen l
  · rw [if_pos h1, if_pos h1]
  · rw [if_neg h1, if_neg h1, if_pos h]
    have hl : l ≠ [] := by rintro rfl; exact absurd h (by decide)
    have hpos : 1 ≤ Lx.nameLen l := by
      obtain ⟨c, r, rfl⟩ := List.exists_cons_of_ne_nil hl
      exact Lx.nameLen_pos (Lx.part_capital h)
    have h2 : ¬ Lx.isWord (l.take (Lx.nameLen l)) = true := fun e => by
      have := isWord_small e
      rw [peek_take hpos, capital_not_small h] at this
      cases this
    rw [if_neg h2]

theorem next_all (w : World) (b : Nat) (t : ByteArray) (p : Nat) (v : Value) (h : St w b t p v) (hg : Gl w) (h6 : 6 ≤ b) :
    Calls Tryz.prog 64 #[.pointer (some ⟨b, 0, none⟩)] w fun e w' => NextPost w b t p v e w' (Lx.next (rest t p)) := by
  have conv : ∀ {x : UInt8} {k : Nat}, k < 256 → ¬ x = UInt8.ofNat k → ¬ (x.toNat : Int) = k := fun hk hx e => hx ((u8_int _ _ hk).1 e)
  cases hsm : Lx.small (Lx.peek (rest t p) 0)
  · cases hca : Lx.capital (Lx.peek (rest t p) 0)
    · have hsc : (Lx.small (Lx.peek (rest t p) 0) || Lx.capital (Lx.peek (rest t p) 0)) = false := by rw [hsm, hca]; rfl
      by_cases h39 : Lx.peek (rest t p) 0 = 39
      · cases hds : Lx.small (Lx.peek (rest t p) 1)
        · have hne : ¬ (Lx.peek (rest t p) 0 = 39 ∧ Lx.small (Lx.peek (rest t p) 1) = true) := fun e => by rw [hds] at e; cases e.2
          have hnn : ¬ (Lx.peek (rest t p) 0 = 126 ∨ Lx.digit (Lx.peek (rest t p) 0) = true) := by rw [h39]; decide
          have hN : Lx.next (rest t p) = .err 11 := by
            rw [Lx.next_sign hsc hne hnn, h39, if_neg (fun e => by rcases e.1 with e | e <;> exact absurd e (by decide)), if_neg (by decide)]
          exact (next_quote w b t p v h hg h6 _ _ rfl rfl hsm hca ((u8_int _ 39 (by decide)).2 h39) hds (by show Lx.digit _ = false; rw [h39]; decide) _ rfl (by rw [h39]; decide)).mono (fun e w' hh => NextPost.err hN hh)
        · have hp : p < t.size := by
            have := peek_lt (l := rest t p) (k := 0) (by rw [h39]; decide)
            rw [rest_length] at this
            omega
          have hN := Lx.next_var hsc h39 hds
          exact (next_var w b t p v h hg h6 _ _ rfl rfl hsm hca ((u8_int _ 39 (by decide)).2 h39) hds hp _ rfl).mono (fun e w' hh => by rw [hN]; exact hh)
      · have hne : ¬ (Lx.peek (rest t p) 0 = 39 ∧ Lx.small (Lx.peek (rest t p) 1) = true) := fun e => h39 e.1
        by_cases h126 : Lx.peek (rest t p) 0 = 126
        · have hN := Lx.next_num hsc hne (.inl h126)
          exact (next_tilde w b t p v h hg h6 _ _ rfl rfl hsm hca (conv (by decide) h39) ((u8_int _ 126 (by decide)).2 h126) _ rfl).mono (fun e w' hh => by rw [hN]; exact hh)
        · cases hdg : Lx.digit (Lx.peek (rest t p) 0)
          · have hnn : ¬ (Lx.peek (rest t p) 0 = 126 ∨ Lx.digit (Lx.peek (rest t p) 0) = true) := by
              rintro (e | e)
              · exact h126 e
              · rw [hdg] at e; cases e
            have hN := Lx.next_sign hsc hne hnn
            have one : ∀ {c : UInt8}, Lx.peek (rest t p) 0 = c → c ≠ 0 → p + 1 ≤ t.size := fun hc h0 => by
              have := peek_lt (l := rest t p) (k := 0) (by rw [hc]; exact h0)
              rw [rest_length] at this
              omega
            by_cases h62 : Lx.peek (rest t p) 1 = 62
            · have hp2 : p + 2 ≤ t.size := by
                have := peek_lt (l := rest t p) (k := 1) (by rw [h62]; decide)
                rw [rest_length] at this
                omega
              by_cases h61 : Lx.peek (rest t p) 0 = 61
              · rw [if_pos ⟨.inl h61, h62⟩] at hN
                exact (next_arrow61 w b t p v h hg h6 _ _ rfl rfl hsm hca (conv (by decide) h39) (conv (by decide) h126) hdg ((u8_int _ 61 (by decide)).2 h61) ((u8_int _ 62 (by decide)).2 h62) hp2 _ rfl).mono (fun e w' hh => by rw [hN]; exact hh)
              · by_cases h45 : Lx.peek (rest t p) 0 = 45
                · rw [if_pos ⟨.inr h45, h62⟩] at hN
                  exact (next_arrow45 w b t p v h hg h6 _ _ rfl rfl hsm hca (conv (by decide) h39) (conv (by decide) h126) hdg (conv (by decide) h61) ((u8_int _ 45 (by decide)).2 h45) ((u8_int _ 62 (by decide)).2 h62) hp2 _ rfl).mono (fun e w' hh => by rw [hN]; exact hh)
                · rw [if_neg (fun e => by rcases e.1 with e | e; exact h61 e; exact h45 e)] at hN
                  by_cases hs : Lx.sign1.contains (Lx.peek (rest t p) 0) = true
                  · rw [if_pos hs] at hN
                    exact (next_one w b t p v h hg h6 _ _ rfl rfl hsm hca (conv (by decide) h39) (conv (by decide) h126) hdg (conv (by decide) h61) (conv (by decide) h45) _ rfl (indexByte_mem.2 hs) (one rfl (fun e => by rw [e] at hs; exact absurd hs (by decide))) _ rfl).mono (fun e w' hh => by rw [hN]; exact hh)
                  · rw [if_neg hs] at hN
                    exact (next_byte w b t p v h hg h6 _ _ rfl rfl hsm hca (conv (by decide) h39) (conv (by decide) h126) hdg (conv (by decide) h61) (conv (by decide) h45) _ rfl (Int.not_le.1 (fun e => hs (indexByte_mem.1 e)))).mono (fun e w' hh => NextPost.err hN hh)
            · rw [if_neg (fun e => h62 e.2)] at hN
              by_cases h61 : Lx.peek (rest t p) 0 = 61
              · have hs : Lx.sign1.contains (Lx.peek (rest t p) 0) = true := by rw [h61]; decide
                rw [if_pos hs] at hN
                exact (next_one61 w b t p v h hg h6 _ _ rfl rfl hsm hca (conv (by decide) h39) (conv (by decide) h126) hdg ((u8_int _ 61 (by decide)).2 h61) (conv (by decide) h62) _ rfl (indexByte_mem.2 hs) (one h61 (by decide)) _ rfl).mono (fun e w' hh => by rw [hN]; exact hh)
              · by_cases h45 : Lx.peek (rest t p) 0 = 45
                · have hs : Lx.sign1.contains (Lx.peek (rest t p) 0) = true := by rw [h45]; decide
                  rw [if_pos hs] at hN
                  exact (next_one45 w b t p v h hg h6 _ _ rfl rfl hsm hca (conv (by decide) h39) (conv (by decide) h126) hdg (conv (by decide) h61) ((u8_int _ 45 (by decide)).2 h45) (conv (by decide) h62) _ rfl (indexByte_mem.2 hs) (one h45 (by decide)) _ rfl).mono (fun e w' hh => by rw [hN]; exact hh)
                · by_cases hs : Lx.sign1.contains (Lx.peek (rest t p) 0) = true
                  · rw [if_pos hs] at hN
                    exact (next_one w b t p v h hg h6 _ _ rfl rfl hsm hca (conv (by decide) h39) (conv (by decide) h126) hdg (conv (by decide) h61) (conv (by decide) h45) _ rfl (indexByte_mem.2 hs) (one rfl (fun e => by rw [e] at hs; exact absurd hs (by decide))) _ rfl).mono (fun e w' hh => by rw [hN]; exact hh)
                  · rw [if_neg hs] at hN
                    exact (next_byte w b t p v h hg h6 _ _ rfl rfl hsm hca (conv (by decide) h39) (conv (by decide) h126) hdg (conv (by decide) h61) (conv (by decide) h45) _ rfl (Int.not_le.1 (fun e => hs (indexByte_mem.1 e)))).mono (fun e w' hh => NextPost.err hN hh)
          · have hN := Lx.next_num hsc hne (.inr hdg)
            exact (next_digit w b t p v h hg h6 _ _ rfl rfl hsm hca (conv (by decide) h39) (conv (by decide) h126) hdg _ rfl).mono (fun e w' hh => by rw [hN]; exact hh)
    · exact (next_capital w b t p v h hg h6 _ _ rfl rfl hsm hca _ rfl).mono (fun e w' hh => by rw [← nameK_capital hca]; exact hh)
  · exact (next_small w b t p v h hg h6 _ _ rfl rfl hsm _ rfl).mono (fun e w' hh => by rw [← nameK_small hsm]; exact hh)
end Go.Proofs.YtdchnjijdkgfhaaGreatDoor
