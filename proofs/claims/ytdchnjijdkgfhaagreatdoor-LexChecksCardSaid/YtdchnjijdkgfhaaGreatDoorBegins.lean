/- Whether a text begins at the place. -/
import Derived.Test.YtdchnjijdkgfhaaGreatDoorNumber
namespace Go.Proofs.YtdchnjijdkgfhaaGreatDoor
open Go.RowKit

theorem rest_bytes (t : ByteArray) (p : Nat) : (t.extract p t.size).data.toList = rest t p := by
  unfold rest
  simp [ByteArray.data_extract, List.take_of_length_le]

/-- Two bytes at the head of a list. -/
def two (l : List UInt8) (x y : UInt8) : Bool := Lib.hasPrefix l [x, y]

theorem two_eq (l : List UInt8) (x y : UInt8) (hx : x ≠ 0) (hy : y ≠ 0) : two l x y = (decide (Lx.peek l 0 = x) && decide (Lx.peek l 1 = y)) := by
  unfold two Lib.hasPrefix Lx.peek
  match l with
  | [] => simp [Ne.symm hx]
  | [c] => simp [List.isPrefixOf, Ne.symm hy]
  | c :: d :: r =>
    show ((x == c) && ((y == d) && true)) = (decide (c = x) && decide (d = y))
    rw [Bool.and_true]
    have e : ∀ a b : UInt8, (a == b) = decide (b = a) := fun a b => by rw [Bool.eq_iff_iff, beq_iff_eq, decide_eq_true_iff]; exact eq_comm
    rw [e, e]

set_option maxHeartbeats 400000 in
theorem begins_any (w : World) (b : Nat) (t : ByteArray) (p : Nat) (v : Value) (h : St w b t p v) (x y : UInt8) :
    Calls Tryz.prog 98 #[.pointer (some ⟨b, 0, none⟩), .string ⟨#[x, y]⟩] w fun e w' => e = .returned (.bool (two (rest t p) x y)) ∧ ∃ n, w' = w.drewN n := by
  have hc0 := h.text
  have hc1 := h.pos
  have hs := h.sz
  have hle := h.le
  have hle' : (p : Int) ≤ t.size := by omega
  have HP : ∀ w, Calls Tryz.prog 113 #[.string (t.extract p t.size), .string ⟨#[x, y]⟩] w fun e w' => e = .returned (.bool (two (rest t p) x y)) ∧ w' = w := by
    intro w
    have h := Tryz.strings_HasPrefix (t.extract p t.size) ⟨#[x, y]⟩ w
    rw [rest_bytes] at h
    exact h
  have HQ := Lib.hid HP
  clear HP
  go_enter Tryz.func98, Tryz.ntmps98
  go_wp2
  go_quiet ((go_at_call 113; exact Calls.quiet_of_same (HQ.out _)))
  go_wp2
  go_ret
  exact ⟨rfl, _, rfl⟩

theorem St.begins {w : World} {b : Nat} {t : ByteArray} {p : Nat} {v : Value} (h : St w b t p v) (x y : UInt8) {z : Bool} (hz : Hid (two (rest t p) x y = z)) :
    Calls Tryz.prog 98 #[.pointer (some ⟨b, 0, none⟩), .string ⟨#[x, y]⟩] w fun e w' => e = .returned (.bool z) ∧ ∃ n, w' = w.drewN n := by
  have h := begins_any w b t p v h x y
  rw [hz.out] at h
  exact h
theorem St.done {w : World} {b : Nat} {t : ByteArray} {p : Nat} {v : Value} (h : St w b t p v) {z : Bool} (hz : Hid (decide (t.size ≤ p) = z)) :
    Calls Tryz.prog 65 #[.pointer (some ⟨b, 0, none⟩)] w fun e w' => e = .returned (.bool z) ∧ ∃ n, w' = w.drewN n := by
  obtain ⟨r, h1, _, _⟩ := h
  exact done_is h1 hz
end Go.Proofs.YtdchnjijdkgfhaaGreatDoor
