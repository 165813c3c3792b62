/- Passing over bytes of a set. -/
import Derived.Test.YtdchnjijdkgfhaaGreatDoorPlace
import Derived.Deep.LoopGhost
namespace Go.Proofs.YtdchnjijdkgfhaaGreatDoor
open Go.RowKit

theorem span_step {P : UInt8 → Bool} {t : ByteArray} {q : Nat} (h : q < t.size) (hp : P t[q] = true) : Lx.span P (rest t q) = Lx.span P (rest t (q + 1)) + 1 := by
  unfold rest
  rw [List.drop_eq_getElem_cons (by simpa using h)]
  show (if P t[q] = true then _ else _) = _
  rw [if_pos hp]
theorem span_stop {P : UInt8 → Bool} {t : ByteArray} {q : Nat} (h : q < t.size) (hp : P t[q] = false) : Lx.span P (rest t q) = 0 := by
  unfold rest
  rw [List.drop_eq_getElem_cons (by simpa using h)]
  show (if P t[q] = true then _ else _) = _
  rw [if_neg (by simp [hp])]
theorem span_end {P : UInt8 → Bool} {t : ByteArray} {q : Nat} (h : t.size ≤ q) : Lx.span P (rest t q) = 0 := by
  unfold rest
  rw [List.drop_eq_nil_of_le (by simpa using h)]
  rfl

set_option maxHeartbeats 400000 in
theorem pass_part (w : World) (b : Nat) (t : ByteArray) (p : Nat) (r : Array Value) (h : Sc w b t p r) :
    Calls Tryz.prog 96 #[.pointer (some ⟨b, 0, none⟩), .func (.func 100) #[] #[]] w fun e w' => e = .returned (.tuple #[]) ∧ Sc w' b t (p + Lx.span Lx.part (rest t p)) r ∧ But b w w' := by
  go_enter Tryz.func96, Tryz.ntmps96
  go_wp2
  go_loopg [] (t.size - p) (fun k wr => ∃ q : Nat, k = t.size - q ∧ Sc wr b t q r ∧ q + Lx.span Lx.part (rest t q) = p + Lx.span Lx.part (rest t p) ∧ But b w wr)
  case atStart => exact ⟨p, rfl, h, rfl, Fr.refl _ _⟩
  case round =>
    obtain ⟨q, hk, hq, hs, hf⟩ := hrel
    have hc0 := hq.text
    have hc1 := hq.pos
    have hfr := hq.free 1
    have hsz := hq.sz
    have hle := hq.le
    have HK := Lib.hid hk
    have HS := Lib.hid hs
    clear hk hs
    by_cases hlt : q < t.size
    · have hd : Hid (decide (t.size ≤ q) = false) := Lib.hid (by simp; omega)
      cases hp : Lx.part t[q]
      · have HP := Lib.hid hp
        clear hp
        go_wp2
        go_quiet (first | (go_at_call 65; exact Calls.quiet_of (done_is (hq.drewN _) hd)) | (go_at_call 100; exact Calls.quiet_of_same (isPart_is HP _)))
        go_wp2
        go_end0
        have hz := span_stop hlt HP.out
        rw [hz] at HS
        have hs := HS.out
        exact ⟨rfl, by rw [← hs]; exact hq.drewN _, hf.drewN _⟩
      · have HP := Lib.hid hp
        clear hp
        go_wp2
        go_quiet (first | (go_at_call 65; exact Calls.quiet_of (done_is (hq.drewN _) hd)) | (go_at_call 100; exact Calls.quiet_of_same (isPart_is HP _)))
        go_wp2
        go_roundg (t.size - (q + 1))
        case measure => have := HK.out; omega
        case rel =>
          refine ⟨q + 1, rfl, (hq.drewN _).move (q + 1) hlt, ?_, (hf.drewN _).setCell _ (fun _ => rfl) _⟩
          have hs := HS.out
          have hz := span_step hlt HP.out
          omega
    · have hd : Hid (decide (t.size ≤ q) = true) := Lib.hid (by simp; omega)
      go_wp2
      go_quiet (first | (go_at_call 65; exact Calls.quiet_of (done_is (hq.drewN _) hd)))
      go_wp2
      go_end0
      have hz : Lx.span Lx.part (rest t q) = 0 := span_end (Nat.not_lt.1 hlt)
      rw [hz] at HS
      have hs := HS.out
      exact ⟨rfl, by rw [← hs]; exact hq.drewN _, hf.drewN _⟩

set_option maxHeartbeats 400000 in
theorem pass_digit (w : World) (b : Nat) (t : ByteArray) (p : Nat) (r : Array Value) (h : Sc w b t p r) :
    Calls Tryz.prog 96 #[.pointer (some ⟨b, 0, none⟩), .func (.func 83) #[] #[]] w fun e w' => e = .returned (.tuple #[]) ∧ Sc w' b t (p + Lx.span Lx.digit (rest t p)) r ∧ But b w w' := by
  go_enter Tryz.func96, Tryz.ntmps96
  go_wp2
  go_loopg [] (t.size - p) (fun k wr => ∃ q : Nat, k = t.size - q ∧ Sc wr b t q r ∧ q + Lx.span Lx.digit (rest t q) = p + Lx.span Lx.digit (rest t p) ∧ But b w wr)
  case atStart => exact ⟨p, rfl, h, rfl, Fr.refl _ _⟩
  case round =>
    obtain ⟨q, hk, hq, hs, hf⟩ := hrel
    have hc0 := hq.text
    have hc1 := hq.pos
    have hfr := hq.free 1
    have hsz := hq.sz
    have hle := hq.le
    have HK := Lib.hid hk
    have HS := Lib.hid hs
    clear hk hs
    by_cases hlt : q < t.size
    · have hd : Hid (decide (t.size ≤ q) = false) := Lib.hid (by simp; omega)
      cases hp : Lx.digit t[q]
      · have HP := Lib.hid hp
        clear hp
        go_wp2
        go_quiet (first | (go_at_call 65; exact Calls.quiet_of (done_is (hq.drewN _) hd)) | (go_at_call 83; exact Calls.quiet_of_same (isDigit_is HP _)))
        go_wp2
        go_end0
        have hz := span_stop hlt HP.out
        rw [hz] at HS
        have hs := HS.out
        exact ⟨rfl, by rw [← hs]; exact hq.drewN _, hf.drewN _⟩
      · have HP := Lib.hid hp
        clear hp
        go_wp2
        go_quiet (first | (go_at_call 65; exact Calls.quiet_of (done_is (hq.drewN _) hd)) | (go_at_call 83; exact Calls.quiet_of_same (isDigit_is HP _)))
        go_wp2
        go_roundg (t.size - (q + 1))
        case measure => have := HK.out; omega
        case rel =>
          refine ⟨q + 1, rfl, (hq.drewN _).move (q + 1) hlt, ?_, (hf.drewN _).setCell _ (fun _ => rfl) _⟩
          have hs := HS.out
          have hz := span_step hlt HP.out
          omega
    · have hd : Hid (decide (t.size ≤ q) = true) := Lib.hid (by simp; omega)
      go_wp2
      go_quiet (first | (go_at_call 65; exact Calls.quiet_of (done_is (hq.drewN _) hd)))
      go_wp2
      go_end0
      have hz : Lx.span Lx.digit (rest t q) = 0 := span_end (Nat.not_lt.1 hlt)
      rw [hz] at HS
      have hs := HS.out
      exact ⟨rfl, by rw [← hs]; exact hq.drewN _, hf.drewN _⟩

set_option maxHeartbeats 400000 in
theorem pass_space (w : World) (b : Nat) (t : ByteArray) (p : Nat) (r : Array Value) (h : Sc w b t p r) :
    Calls Tryz.prog 96 #[.pointer (some ⟨b, 0, none⟩), .func (.func 97) #[] #[]] w fun e w' => e = .returned (.tuple #[]) ∧ Sc w' b t (p + Lx.span Lx.space (rest t p)) r ∧ But b w w' := by
  go_enter Tryz.func96, Tryz.ntmps96
  go_wp2
  go_loopg [] (t.size - p) (fun k wr => ∃ q : Nat, k = t.size - q ∧ Sc wr b t q r ∧ q + Lx.span Lx.space (rest t q) = p + Lx.span Lx.space (rest t p) ∧ But b w wr)
  case atStart => exact ⟨p, rfl, h, rfl, Fr.refl _ _⟩
  case round =>
    obtain ⟨q, hk, hq, hs, hf⟩ := hrel
    have hc0 := hq.text
    have hc1 := hq.pos
    have hfr := hq.free 1
    have hsz := hq.sz
    have hle := hq.le
    have HK := Lib.hid hk
    have HS := Lib.hid hs
    clear hk hs
    by_cases hlt : q < t.size
    · have hd : Hid (decide (t.size ≤ q) = false) := Lib.hid (by simp; omega)
      cases hp : Lx.space t[q]
      · have HP := Lib.hid hp
        clear hp
        go_wp2
        go_quiet (first | (go_at_call 65; exact Calls.quiet_of (done_is (hq.drewN _) hd)) | (go_at_call 97; exact Calls.quiet_of_same (isSpace_is HP _)))
        go_wp2
        go_end0
        have hz := span_stop hlt HP.out
        rw [hz] at HS
        have hs := HS.out
        exact ⟨rfl, by rw [← hs]; exact hq.drewN _, hf.drewN _⟩
      · have HP := Lib.hid hp
        clear hp
        go_wp2
        go_quiet (first | (go_at_call 65; exact Calls.quiet_of (done_is (hq.drewN _) hd)) | (go_at_call 97; exact Calls.quiet_of_same (isSpace_is HP _)))
        go_wp2
        go_roundg (t.size - (q + 1))
        case measure => have := HK.out; omega
        case rel =>
          refine ⟨q + 1, rfl, (hq.drewN _).move (q + 1) hlt, ?_, (hf.drewN _).setCell _ (fun _ => rfl) _⟩
          have hs := HS.out
          have hz := span_step hlt HP.out
          omega
    · have hd : Hid (decide (t.size ≤ q) = true) := Lib.hid (by simp; omega)
      go_wp2
      go_quiet (first | (go_at_call 65; exact Calls.quiet_of (done_is (hq.drewN _) hd)))
      go_wp2
      go_end0
      have hz : Lx.span Lx.space (rest t q) = 0 := span_end (Nat.not_lt.1 hlt)
      rw [hz] at HS
      have hs := HS.out
      exact ⟨rfl, by rw [← hs]; exact hq.drewN _, hf.drewN _⟩

end Go.Proofs.YtdchnjijdkgfhaaGreatDoor
