/- The reference's reader, first part: what a byte is, and where a name ends. -/
import Derived.Test.YtdchnjijdkgfhaaGreatDoorRefNum
namespace Go.Proofs.YtdchnjijdkgfhaaGreatDoor
open Go.RowKit

set_option maxHeartbeats 400000 in
theorem smallR_any (c : UInt8) (w : World) :
    Calls Tryz.prog 56 #[.int .u8 c.toNat] w fun e w' => e = .returned (.bool (Lx.small c)) ∧ w' = w := by
  go_enter Tryz.func56, Tryz.ntmps56
  go_wp2
  all_goals
    go_ret
    exact ⟨ret_bool (by rw [Bool.eq_iff_iff]; simp [Lx.small]; try omega), rfl⟩
set_option maxHeartbeats 400000 in
theorem capitalR_any (c : UInt8) (w : World) :
    Calls Tryz.prog 58 #[.int .u8 c.toNat] w fun e w' => e = .returned (.bool (Lx.capital c)) ∧ w' = w := by
  go_enter Tryz.func58, Tryz.ntmps58
  go_wp2
  all_goals
    go_ret
    exact ⟨ret_bool (by rw [Bool.eq_iff_iff]; simp [Lx.capital]; try omega), rfl⟩
set_option maxHeartbeats 400000 in
theorem spaceR_any (c : UInt8) (w : World) :
    Calls Tryz.prog 35 #[.int .u8 c.toNat] w fun e w' => e = .returned (.bool (Lx.space c)) ∧ w' = w := by
  go_enter Tryz.func35, Tryz.ntmps35
  go_wp2
  all_goals
    go_ret
    exact ⟨ret_bool (by rw [Bool.eq_iff_iff]; simp [Lx.space]; try omega), rfl⟩
set_option maxHeartbeats 400000 in
theorem innerR_any (c : UInt8) (w : World) :
    Calls Tryz.prog 55 #[.int .u8 c.toNat] w fun e w' => e = .returned (.bool (Lx.part c)) ∧ w' = w := by
  go_enter Tryz.func55, Tryz.ntmps55
  go_wp2_with (first | (go_at_call 56; refine (smallR_any _ _).mono ?_; rintro e w' ⟨rfl, rfl⟩) | (go_at_call 58; refine (capitalR_any _ _).mono ?_; rintro e w' ⟨rfl, rfl⟩) | (go_at_call 54; refine (digitR_any _ _).mono ?_; rintro e w' ⟨rfl, rfl⟩))
  all_goals
    go_ret
    refine ⟨ret_bool ?_, rfl⟩
    rw [Bool.eq_iff_iff]
    simp [Lx.part, *]
    try omega
theorem innerR_is {c : UInt8} {v : Bool} (hv : Hid (Lx.part c = v)) (w : World) :
    Calls Tryz.prog 55 #[.int .u8 c.toNat] w fun e w' => e = .returned (.bool v) ∧ w' = w := by
  have h := innerR_any c w
  rw [hv.out] at h
  exact h

set_option maxRecDepth 100000 in
set_option maxHeartbeats 1000000 in
theorem plainR_any (s : ByteArray) (hs : s.size ≤ 140737488355328) (i : Nat) (hi : i ≤ s.size) (w : World) :
    Calls Tryz.prog 57 #[.string s, .int .i64 i] w fun e w' => e = .returned (.int .i64 ((i + Lx.span Lx.part (rest s i) : Nat) : Int)) ∧ w' = w := by
  obtain ⟨E, hE⟩ : ∃ E, i + Lx.span Lx.part (rest s i) = E := ⟨_, rfl⟩
  rw [hE]
  have HE := Lib.hid hE
  have HS := Lib.hid hs
  clear hE
  go_enter Tryz.func57, Tryz.ntmps57
  go_wp2_with fail
  go_loopg [5] (s.size - i) (fun g x wr => ∃ j : Nat, g = s.size - j ∧ j ≤ s.size ∧ x = .int .i64 j ∧ j + Lx.span Lx.part (rest s j) = E ∧ wr = w)
  case atStart => exact ⟨i, rfl, hi, rfl, HE.out, rfl⟩
  case round =>
    obtain ⟨j, hgk, hj, rfl, hjE, rfl⟩ := hrel
    have HG := Lib.hid hgk
    have HJ := Lib.hid hjE
    clear hgk hjE
    by_cases hlt : j < s.size
    · have hd : decide ((j : Int) < (s.size : Int)) = true := by simp only [decide_eq_true_eq]; omega
      have hwj : Hid (wrap64 ((j : Int) + 1) = ((j + 1 : Nat) : Int)) := Lib.hid (by rw [IntWalk.wrap64_in _ (by have := HS.out; omega)]; omega)
      cases hp : Lx.part s[j]
      · have HP := Lib.hid hp
        have hz := span_stop hlt hp
        have HZ := Lib.hid hz
        clear hp hz
        go_wp2_with fail
        refine (innerR_is HP _).mono ?_
        rintro e w1 ⟨rfl, rfl⟩
        go_wp2
        go_ret
        exact ⟨by have := HJ.out; rw [HZ.out] at this; rw [← this]; rfl, rfl⟩
      · have HP := Lib.hid hp
        have hz := span_step hlt hp
        have HZ := Lib.hid hz
        clear hp hz
        go_wp2_with fail
        refine (innerR_is HP _).mono ?_
        rintro e w1 ⟨rfl, rfl⟩
        go_wp2
        go_roundg (s.size - (j + 1))
        case measure => have := HG.out; omega
        case rel => exact ⟨j + 1, rfl, hlt, by first | rfl | rw [hwj.out], by have := HJ.out; rw [HZ.out] at this; omega, rfl⟩
    · have hd : decide ((j : Int) < (s.size : Int)) = false := by simp only [decide_eq_false_iff_not]; omega
      have hz := span_end (P := Lx.part) (t := s) (q := j) (by omega)
      have HZ := Lib.hid hz
      clear hz
      go_wp2
      go_ret
      exact ⟨by have := HJ.out; rw [HZ.out] at this; rw [← this]; rfl, rfl⟩
end Go.Proofs.YtdchnjijdkgfhaaGreatDoor
