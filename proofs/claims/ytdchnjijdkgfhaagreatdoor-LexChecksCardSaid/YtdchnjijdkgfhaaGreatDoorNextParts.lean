/- What each of the scanner's readers makes of the bytes at its place, in the words of the plain functions. -/
import Derived.Test.YtdchnjijdkgfhaaGreatDoorCom
import Derived.Test.YtdchnjijdkgfhaaGreatDoorScan
namespace Go.Proofs.YtdchnjijdkgfhaaGreatDoor
open Go.RowKit

theorem extract_take (t : ByteArray) (p n : Nat) : (t.extract p (p + n)).data.toList = (rest t p).take n := by
  unfold rest
  rw [ByteArray.data_extract, Array.toList_extract, List.extract_eq_take_drop]
  congr 1
  omega
theorem rest_drop (t : ByteArray) (p n : Nat) : (rest t p).drop n = rest t (p + n) := by unfold rest; rw [List.drop_drop]
theorem peek_drop (l : List UInt8) (j k : Nat) : Lx.peek (l.drop j) k = Lx.peek l (j + k) := by
  unfold Lx.peek
  rw [List.getD_eq_getElem?_getD, List.getElem?_drop, List.getD_eq_getElem?_getD]
theorem rest_peek (t : ByteArray) (p j k : Nat) : Lx.peek (rest t (p + j)) k = Lx.peek (rest t p) (j + k) := by
  rw [← rest_drop, peek_drop]
theorem rest_length (t : ByteArray) (p : Nat) : (rest t p).length = t.size - p := by simp [rest]
theorem peek_lt {l : List UInt8} {k : Nat} (h : Lx.peek l k ≠ 0) : k < l.length := by
  rcases Nat.lt_or_ge k l.length with h' | h'
  · exact h'
  · exact absurd (by unfold Lx.peek; rw [List.getD_eq_getElem?_getD, List.getElem?_eq_none h']; rfl) h
theorem digit_ne {c : UInt8} (h : Lx.digit c = true) : c ≠ 0 := by rintro rfl; exact absurd h (by decide)
theorem small_ne {c : UInt8} (h : Lx.small c = true) : c ≠ 0 := by rintro rfl; exact absurd h (by decide)
theorem capital_ne {c : UInt8} (h : Lx.capital c = true) : c ≠ 0 := by rintro rfl; exact absurd h (by decide)
theorem u8_int (c : UInt8) (k : Nat) (hk : k < 256) : ((c.toNat : Int) = k) ↔ c = UInt8.ofNat k := by
  constructor
  · intro h
    apply UInt8.toNat_inj.1
    rw [UInt8.toNat_ofNat', Nat.mod_eq_of_lt hk]
    omega
  · rintro rfl
    rw [UInt8.toNat_ofNat', Nat.mod_eq_of_lt hk]

/-- How a reader of a token ends. -/
def NextPost (w : World) (b : Nat) (t : ByteArray) (p : Nat) (v : Value) (e : Ending) (w' : World) : Lx.Next → Prop
  | .tok k n j => e = .returned (tokV k n (t.extract p (p + j)) p) ∧ St w' b t (p + j) v ∧ But b w w'
  | .err x => e = pan p x ∧ But b w w'

theorem NextPost.tok {w : World} {b : Nat} {t : ByteArray} {p : Nat} {v : Value} {e : Ending} {w' : World} {x : Lx.Next} {k n : Int} {j : Nat} (hx : x = .tok k n j)
    (h : e = .returned (tokV k n (t.extract p (p + j)) p) ∧ St w' b t (p + j) v ∧ But b w w') : NextPost w b t p v e w' x := by subst hx; exact h
theorem NextPost.err {w : World} {b : Nat} {t : ByteArray} {p : Nat} {v : Value} {e : Ending} {w' : World} {x : Lx.Next} {k : Int} (hx : x = .err k)
    (h : e = pan p k ∧ But b w w') : NextPost w b t p v e w' x := by subst hx; exact h

/-- A name or a word, by the kind that the reader is handed. -/
def nameK (k : Int) (l : List UInt8) : Lx.Next :=
  if 24 < Lx.nameLen l then .err 2 else .tok (if Lx.isWord (l.take (Lx.nameLen l)) = true then 5 else k) 0 (Lx.nameLen l)

theorem name_all (w : World) (b : Nat) (t : ByteArray) (p : Nat) (v : Value) (h : St w b t p v) (k : Int) :
    Calls Tryz.prog 80 #[.pointer (some ⟨b, 0, none⟩), .int .i64 k] w fun e w' => NextPost w b t p v e w' (nameK k (rest t p)) := by
  have hle := h.le
  have hsl := Lx.span_le Lx.part (rest t p)
  rw [rest_length] at hsl
  have hj : p + Lx.span Lx.part (rest t p) ≤ t.size := by omega
  have hc := rest_peek t p (Lx.span Lx.part (rest t p)) 0
  have hd := rest_peek t p (Lx.span Lx.part (rest t p)) 1
  by_cases h1 : Lx.peek (rest t p) (Lx.span Lx.part (rest t p) + 0) = 39
  · cases h2 : Lx.digit (Lx.peek (rest t p) (Lx.span Lx.part (rest t p) + 1))
    · have hN : Lx.nameLen (rest t p) = Lx.span Lx.part (rest t p) := by
        unfold Lx.nameLen
        simp only
        rw [if_neg (by rw [h2]; simp)]
      by_cases hl : 24 < Lx.span Lx.part (rest t p)
      · exact (name_quote_long w b t p v h k _ _ _ rfl hc hd ((u8_int _ 39 (by decide)).2 h1) h2 hj hl).mono (fun e w' hh => NextPost.err (by unfold nameK; rw [hN, if_pos hl]) hh)
      · exact (name_quote w b t p v h k _ _ _ _ rfl hc hd ((u8_int _ 39 (by decide)).2 h1) h2 hj (by omega) rfl).mono (fun e w' hh => NextPost.tok (by unfold nameK; rw [hN, if_neg hl, extract_take]) hh)
    · have hN : Lx.nameLen (rest t p) = Lx.span Lx.part (rest t p) + 1 + Lx.span Lx.digit (rest t (p + Lx.span Lx.part (rest t p) + 1)) := by
        unfold Lx.nameLen
        simp only
        rw [if_pos ⟨by simpa using h1, h2⟩, rest_drop]
        rfl
      have hl1 := peek_lt (digit_ne h2)
      rw [rest_length] at hl1
      have hsl2 := Lx.span_le Lx.digit (rest t (p + Lx.span Lx.part (rest t p) + 1))
      rw [rest_length] at hsl2
      by_cases hl : 24 < Lx.nameLen (rest t p)
      · exact (name_digits_long w b t p v h k (Lx.span Lx.part (rest t p)) (Lx.nameLen (rest t p)) _ _ rfl hc hd ((u8_int _ 39 (by decide)).2 h1) h2 (by omega) (by omega) (by omega) hl).mono (fun e w' hh => NextPost.err (by unfold nameK; rw [if_pos hl]) hh)
      · exact (name_digits w b t p v h k (Lx.span Lx.part (rest t p)) (Lx.nameLen (rest t p)) _ _ _ rfl hc hd ((u8_int _ 39 (by decide)).2 h1) h2 (by omega) (by omega) (by omega) (by omega) rfl).mono (fun e w' hh => NextPost.tok (by unfold nameK; rw [if_neg hl, extract_take]) hh)
  · have hN : Lx.nameLen (rest t p) = Lx.span Lx.part (rest t p) := by
      unfold Lx.nameLen
      simp only
      rw [if_neg (fun e => h1 e.1)]
    have h1' : ¬ ((Lx.peek (rest t p) (Lx.span Lx.part (rest t p) + 0)).toNat : Int) = 39 := fun e => h1 ((u8_int _ 39 (by decide)).1 e)
    by_cases hl : 24 < Lx.span Lx.part (rest t p)
    · exact (name_plain_long w b t p v h k _ _ _ rfl hc hd h1' hj hl).mono (fun e w' hh => NextPost.err (by unfold nameK; rw [hN, if_pos hl]) hh)
    · exact (name_plain w b t p v h k _ _ _ _ rfl hc hd h1' hj (by omega) rfl).mono (fun e w' hh => NextPost.tok (by unfold nameK; rw [hN, if_neg hl, extract_take]) hh)

theorem variable_all (w : World) (b : Nat) (t : ByteArray) (p : Nat) (v : Value) (h : St w b t p v) (hp : p < t.size) :
    Calls Tryz.prog 82 #[.pointer (some ⟨b, 0, none⟩)] w fun e w' => NextPost w b t p v e w' (Lx.nextVar (rest t p)) := by
  have hdr : (rest t p).drop 1 = rest t (p + 1) := rest_drop t p 1
  have hsl := Lx.span_le Lx.part (rest t (p + 1))
  rw [rest_length] at hsl
  obtain ⟨r, h1, h2, h3⟩ := h
  by_cases hl : 24 < 1 + Lx.span Lx.part (rest t (p + 1))
  · exact (variable_long w b t p r h1 hp hl).mono (fun e w' hh => NextPost.err (by unfold Lx.nextVar; simp only; rw [hdr, if_pos hl]) hh)
  · exact (variable_any w b t p r h1 hp (1 + Lx.span Lx.part (rest t (p + 1))) (by omega) (by omega)).mono (fun e w' ⟨he, hs, hf⟩ => NextPost.tok (by unfold Lx.nextVar; simp only; rw [hdr, if_neg hl]) ⟨he, St.step h1 h2 h3 hs hf, hf⟩)

theorem number_all (w : World) (b : Nat) (t : ByteArray) (p : Nat) (v : Value) (h : St w b t p v) (hg : Gl w) (h6 : 6 ≤ b) :
    Calls Tryz.prog 84 #[.pointer (some ⟨b, 0, none⟩)] w fun e w' => NextPost w b t p v e w' (Lx.nextNum (rest t p)) := by
  have hlen : p + Lx.numLen (rest t p) ≤ t.size := by
    have hle := h.le
    unfold Lx.numLen
    split
    · rename_i hc
      have h1 := peek_lt (l := rest t p) (k := 0) (by rw [hc]; decide)
      rw [rest_length] at h1
      have h2 := Lx.span_le Lx.digit (rest t (p + 1))
      rw [rest_length] at h2
      rw [rest_drop]
      omega
    · have h2 := Lx.span_le Lx.digit (rest t p)
      rw [rest_length] at h2
      omega
  have hd := rest_peek t p (Lx.numLen (rest t p)) 0
  have heq : Lx.nextNum (rest t p) = match Lx.number ((rest t p).take (Lx.numLen (rest t p))) with
    | none => .err 13
    | some n => if (Lx.part (Lx.peek (rest t p) (Lx.numLen (rest t p) + 0)) || decide (Lx.peek (rest t p) (Lx.numLen (rest t p) + 0) = 39)) = true then .err 13 else .tok 1 n (Lx.numLen (rest t p)) := rfl
  rw [← extract_take] at heq
  by_cases hc : Lx.peek (rest t p) 0 = 126
  · have hm : p + Lx.numLen (rest t p) = p + 1 + Lx.span Lx.digit (rest t (p + 1)) := by
      unfold Lx.numLen
      rw [if_pos hc, rest_drop]
      omega
    have hc' := (u8_int _ 126 (by decide)).2 hc
    cases hN : Lx.number (t.extract p (p + Lx.numLen (rest t p))).data.toList with
    | none => exact (number_tilde_none w b t p v h hg h6 _ _ _ rfl hc' hm hd hN).mono (fun e w' hh => NextPost.err (by rw [heq, hN]) hh)
    | some i =>
      rw [hN] at heq
      simp only at heq
      cases hP : Lx.part (Lx.peek (rest t p) (Lx.numLen (rest t p) + 0))
      · by_cases hQ : Lx.peek (rest t p) (Lx.numLen (rest t p) + 0) = 39
        · exact (number_tilde_quote w b t p v h hg h6 _ _ _ rfl hc' hm hd i hN hP ((u8_int _ 39 (by decide)).2 hQ)).mono (fun e w' hh => NextPost.err (by rw [heq, if_pos (by rw [hQ]; simp)]) hh)
        · exact (number_tilde_any w b t p v h hg h6 _ _ _ rfl hc' hm hd i hN hP (fun e => hQ ((u8_int _ 39 (by decide)).1 e))).mono (fun e w' hh => NextPost.tok (by rw [heq, if_neg (by rw [hP]; simpa using hQ)]) hh)
      · exact (number_tilde_part w b t p v h hg h6 _ _ _ rfl hc' hm hd i hN hP).mono (fun e w' hh => NextPost.err (by rw [heq, if_pos (by rw [hP]; rfl)]) hh)
  · have hm : p + Lx.numLen (rest t p) = p + Lx.span Lx.digit (rest t p) := by
      unfold Lx.numLen
      rw [if_neg hc]
    have hc' : ¬ ((Lx.peek (rest t p) 0).toNat : Int) = 126 := fun e => hc ((u8_int _ 126 (by decide)).1 e)
    cases hN : Lx.number (t.extract p (p + Lx.numLen (rest t p))).data.toList with
    | none => exact (number_plain_none w b t p v h hg h6 _ _ _ rfl hc' hm hd hN).mono (fun e w' hh => NextPost.err (by rw [heq, hN]) hh)
    | some i =>
      rw [hN] at heq
      simp only at heq
      cases hP : Lx.part (Lx.peek (rest t p) (Lx.numLen (rest t p) + 0))
      · by_cases hQ : Lx.peek (rest t p) (Lx.numLen (rest t p) + 0) = 39
        · exact (number_plain_quote w b t p v h hg h6 _ _ _ rfl hc' hm hd i hN hP ((u8_int _ 39 (by decide)).2 hQ)).mono (fun e w' hh => NextPost.err (by rw [heq, if_pos (by rw [hQ]; simp)]) hh)
        · exact (number_plain_any w b t p v h hg h6 _ _ _ rfl hc' hm hd i hN hP (fun e => hQ ((u8_int _ 39 (by decide)).1 e))).mono (fun e w' hh => NextPost.tok (by rw [heq, if_neg (by rw [hP]; simpa using hQ)]) hh)
      · exact (number_plain_part w b t p v h hg h6 _ _ _ rfl hc' hm hd i hN hP).mono (fun e w' hh => NextPost.err (by rw [heq, if_pos (by rw [hP]; rfl)]) hh)
end Go.Proofs.YtdchnjijdkgfhaaGreatDoor
