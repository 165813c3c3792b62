/- Blanking a part of a row of bytes: all but line feeds. -/
import Derived.Test.YtdchnjijdkgfhaaGreatDoorLine
import Derived.Laws.IdiomStrings
import Derived.Laws.BytesArg
namespace Lx
def blank (l : List B) (a n : Nat) : List B := l.mapIdx fun i c => if a ≤ i ∧ i < a + n ∧ c ≠ 10 then 32 else c
theorem blank_length (l : List B) (a n : Nat) : (blank l a n).length = l.length := by simp [blank]
theorem blank_at (l : List B) (a n : Nat) {j : Nat} (hj : j < l.length) : (blank l a n)[j]'(by rw [blank_length]; exact hj) = if a ≤ j ∧ j < a + n ∧ l[j] ≠ 10 then 32 else l[j] := by simp [blank]
theorem blank_zero (l : List B) (a : Nat) : blank l a 0 = l := by
  apply List.ext_getElem
  · rw [blank_length]
  · intro i h1 h2
    rw [blank_at l a 0 h2, if_neg (by omega)]
theorem blank_next (l : List B) (a i : Nat) (h : a + i < l.length) : blank l a (i + 1) = if l[a + i] = 10 then blank l a i else (blank l a i).set (a + i) 32 := by
  split
  · rename_i hc
    apply List.ext_getElem
    · rw [blank_length, blank_length]
    · intro j h1 h2
      rw [blank_length] at h1
      rw [blank_at l a (i + 1) h1, blank_at l a i h1]
      by_cases hj : j = a + i
      · subst hj
        rw [if_neg (fun e => e.2.2 hc), if_neg (fun e => e.2.2 hc)]
      · have : (a ≤ j ∧ j < a + (i + 1) ∧ l[j] ≠ 10) ↔ (a ≤ j ∧ j < a + i ∧ l[j] ≠ 10) := by
          constructor
          · rintro ⟨x, y, z⟩; exact ⟨x, by omega, z⟩
          · rintro ⟨x, y, z⟩; exact ⟨x, by omega, z⟩
        simp only [this]
  · rename_i hc
    apply List.ext_getElem
    · rw [blank_length, List.length_set, blank_length]
    · intro j h1 h2
      rw [blank_length] at h1
      rw [blank_at l a (i + 1) h1, List.getElem_set]
      by_cases hj : a + i = j
      · subst hj
        rw [if_pos ⟨by omega, by omega, hc⟩, if_pos rfl]
      · rw [if_neg hj, blank_at l a i h1]
        have : (a ≤ j ∧ j < a + (i + 1) ∧ l[j] ≠ 10) ↔ (a ≤ j ∧ j < a + i ∧ l[j] ≠ 10) := by
          constructor
          · rintro ⟨x, y, z⟩; exact ⟨x, by omega, z⟩
          · rintro ⟨x, y, z⟩; exact ⟨x, by omega, z⟩
        simp only [this]
theorem blank_same (l : List B) (a i : Nat) (h : a + i < l.length) : (blank l a i)[a + i]'(by rw [blank_length]; exact h) = l[a + i] := by
  rw [blank_at l a i h, if_neg (by omega)]
end Lx
namespace Go.Proofs.YtdchnjijdkgfhaaGreatDoor
open Go.RowKit

/-- A row of bytes. -/
structure Byt (w : World) (B : Nat) (l : List UInt8) : Prop where
  cells : ∃ C f, w.heap[B]? = some (.cells C 5 f)
  at_ : ∀ j (hj : j < l.length), w.cell? ⟨B, j, none⟩ = some (.int .u8 (l[j].toNat : Int)) ∧ w.frozen? ⟨B, j, none⟩ = false

theorem Byt.lt {w : World} {B : Nat} {l : List UInt8} (h : Byt w B l) : B < w.heap.size := by
  obtain ⟨C, f, hc⟩ := h.cells
  exact lt_of_block hc
theorem Byt.keep {S : Nat → Prop} {w w' : World} {B : Nat} {l : List UInt8} (h : Byt w B l) (hf : Fr S w w') (hn : ¬ S B) : Byt w' B l := by
  obtain ⟨C, f, hc⟩ := h.cells
  have he : w'.heap[B]? = w.heap[B]? := hf.block B h.lt hn
  exact ⟨⟨C, f, he.trans hc⟩, fun j hj => ⟨(World.cell?_of_block he).trans (h.at_ j hj).1, (World.frozen?_of_block he).trans (h.at_ j hj).2⟩⟩

theorem Byt.set {w : World} {B : Nat} {l : List UInt8} (h : Byt w B l) (j : Nat) (hj : j < l.length) (u : UInt8) : Byt (w.setCell ⟨B, j, none⟩ (.int .u8 (u.toNat : Int))) B (l.set j u) := by
  obtain ⟨C, f, hc⟩ := h.cells
  refine ⟨⟨C.setIfInBounds j (.int .u8 (u.toNat : Int)), f, ?_⟩, ?_⟩
  · have hlt := h.lt
    have h' : w.heap[B] = .cells C 5 f := by simpa [Array.getElem?_eq_getElem hlt] using hc
    show (w.heap.modify B _)[B]? = _
    rw [Array.getElem?_eq_getElem (by simpa using hlt), Array.getElem_modify_self, h']
    rfl
  · intro k hk
    rw [List.length_set] at hk
    refine ⟨?_, by rw [World.frozen?_setCell]; exact (h.at_ k hk).2⟩
    rw [List.getElem_set]
    by_cases e : j = k
    · subst e
      rw [if_pos rfl]
      exact World.cell?_setCell_same' _ _ _ (by rw [(h.at_ j hk).1]; rfl)
    · rw [if_neg e, World.cell?_setCell_other _ _ _ _ (by intro e'; cases e'; exact e rfl)]
      exact (h.at_ k hk).1

set_option maxRecDepth 100000 in
set_option maxHeartbeats 1000000 in
theorem blank_any (w : World) (B a n cap : Nat) (l : List UInt8) (h : Byt w B l) (hl : l.length ≤ 1000000) (han : a + n ≤ l.length) :
    Calls Tryz.prog 34 #[.slice (some ⟨B, a, none⟩) n cap] w fun e w' => e = .returned (.tuple #[]) ∧ Byt w' B (Lx.blank l a n) ∧ But B w w' := by
  go_enter Tryz.func34, Tryz.ntmps34
  go_wp2_with fail
  go_loopg [6] n (fun g x wr => ∃ i : Nat, g = n - i ∧ i ≤ n ∧ x = .int .i64 i ∧ Byt wr B (Lx.blank l a i) ∧ But B w wr)
  case atStart =>
    exact ⟨0, rfl, Nat.zero_le _, rfl, by rw [Lx.blank_zero]; exact h, But.refl B w⟩
  case round =>
    obtain ⟨i, hg, hi, rfl, hB, hF⟩ := hrel
    have HG := Lib.hid hg
    clear hg
    by_cases hlt : i < n
    · have hd : decide ((i : Int) < (n : Int)) = true := by simp only [decide_eq_true_eq]; omega
      have hj : a + i < (Lx.blank l a i).length := by rw [Lx.blank_length]; omega
      have hjl : a + i < l.length := by omega
      obtain ⟨c0, f0⟩ := hB.at_ (a + i) hj
      rw [Lx.blank_same l a i hjl] at c0
      have HN := Lib.hid (Lx.blank_next l a i hjl)
      obtain ⟨c, hc⟩ : ∃ c, l[a + i] = c := ⟨_, rfl⟩
      rw [hc] at c0 HN
      clear hc
      have hlim : i < 1000000 := by omega
      by_cases h10 : c = 10
      · have hcd : ((c.toNat : Int) != 10) = false := by subst h10; rfl
        rw [if_pos h10] at HN
        clear h10
        go_wp2
        go_roundg (n - (i + 1))
        case measure => have := HG.out; omega
        case rel => exact ⟨i + 1, rfl, hlt, rfl, by rw [HN.out]; exact hB, hF⟩
      · have hcd : ((c.toNat : Int) != 10) = true := by
          simp only [bne_iff_ne, ne_eq]
          intro e
          exact h10 (UInt8.toNat_inj.1 (by have : (10 : UInt8).toNat = 10 := rfl; omega))
        rw [if_neg h10] at HN
        clear h10
        go_wp2
        go_roundg (n - (i + 1))
        case measure => have := HG.out; omega
        case rel => exact ⟨i + 1, rfl, hlt, rfl, by rw [HN.out]; exact hB.set (a + i) hj 32, hF.setCell ⟨B, a + i, none⟩ (fun _ => rfl) _⟩
    · have hd : decide ((i : Int) < (n : Int)) = false := by simp only [decide_eq_false_iff_not]; omega
      have : i = n := by omega
      subst this
      go_wp2
      go_end0
      exact ⟨rfl, hB, hF⟩
end Go.Proofs.YtdchnjijdkgfhaaGreatDoor
