/- The tests of one byte: each function of the code that asks what a byte is returns what the plain function says, and leaves the world alone. -/
import Derived.Test.YtdchnjijdkgfhaaGreatDoorProg
import Derived.Test.YtdchnjijdkgfhaaGreatDoorSpec
import Derived.Test.YtdchnjijdkgfhaaGreatDoorBase
import Derived.WalkSpells
import Derived.WalkLawsBesides
import Derived.Deep.QuietTactic
import Derived.BigQuiet
namespace Go.Proofs.YtdchnjijdkgfhaaGreatDoor
open Go.RowKit


set_option maxHeartbeats 400000 in
theorem isSmall_any (c : UInt8) (w : World) :
    Calls Tryz.prog 79 #[.int .u8 c.toNat] w fun e w' => e = .returned (.bool (Lx.small c)) ∧ w' = w := by
  go_enter Tryz.func79, Tryz.ntmps79
  go_wp2
  all_goals
    go_ret
    exact ⟨ret_bool (by rw [Bool.eq_iff_iff]; simp [Lx.small]; try omega), rfl⟩

set_option maxHeartbeats 400000 in
theorem isCapital_any (c : UInt8) (w : World) :
    Calls Tryz.prog 81 #[.int .u8 c.toNat] w fun e w' => e = .returned (.bool (Lx.capital c)) ∧ w' = w := by
  go_enter Tryz.func81, Tryz.ntmps81
  go_wp2
  all_goals
    go_ret
    exact ⟨ret_bool (by rw [Bool.eq_iff_iff]; simp [Lx.capital]; try omega), rfl⟩

set_option maxHeartbeats 400000 in
theorem isDigit_any (c : UInt8) (w : World) :
    Calls Tryz.prog 83 #[.int .u8 c.toNat] w fun e w' => e = .returned (.bool (Lx.digit c)) ∧ w' = w := by
  go_enter Tryz.func83, Tryz.ntmps83
  go_wp2
  all_goals
    go_ret
    exact ⟨ret_bool (by rw [Bool.eq_iff_iff]; simp [Lx.digit]; try omega), rfl⟩

set_option maxHeartbeats 400000 in
theorem isSpace_any (c : UInt8) (w : World) :
    Calls Tryz.prog 97 #[.int .u8 c.toNat] w fun e w' => e = .returned (.bool (Lx.space c)) ∧ w' = w := by
  go_enter Tryz.func97, Tryz.ntmps97
  go_wp2
  all_goals
    go_ret
    exact ⟨ret_bool (by rw [Bool.eq_iff_iff]; simp [Lx.space]; try omega), rfl⟩

set_option maxHeartbeats 400000 in
theorem isPart_any (c : UInt8) (w : World) :
    Calls Tryz.prog 100 #[.int .u8 c.toNat] w fun e w' => e = .returned (.bool (Lx.part c)) ∧ w' = w := by
  go_enter Tryz.func100, Tryz.ntmps100
  go_wp2_with (first | (go_at_call 79; refine (isSmall_any _ _).mono ?_; rintro e w' ⟨rfl, rfl⟩) | (go_at_call 81; refine (isCapital_any _ _).mono ?_; rintro e w' ⟨rfl, rfl⟩) | (go_at_call 83; refine (isDigit_any _ _).mono ?_; rintro e w' ⟨rfl, rfl⟩))
  all_goals
    go_ret
    refine ⟨ret_bool ?_, rfl⟩
    rw [Bool.eq_iff_iff]
    simp [Lx.part, *]
    try omega
theorem isSmall_is {c : UInt8} {v : Bool} (hv : Hid (Lx.small c = v)) (w : World) :
    Calls Tryz.prog 79 #[.int .u8 c.toNat] w fun e w' => e = .returned (.bool v) ∧ w' = w := by
  have h := isSmall_any c w
  rw [hv.out] at h
  exact h
theorem isCapital_is {c : UInt8} {v : Bool} (hv : Hid (Lx.capital c = v)) (w : World) :
    Calls Tryz.prog 81 #[.int .u8 c.toNat] w fun e w' => e = .returned (.bool v) ∧ w' = w := by
  have h := isCapital_any c w
  rw [hv.out] at h
  exact h
theorem isDigit_is {c : UInt8} {v : Bool} (hv : Hid (Lx.digit c = v)) (w : World) :
    Calls Tryz.prog 83 #[.int .u8 c.toNat] w fun e w' => e = .returned (.bool v) ∧ w' = w := by
  have h := isDigit_any c w
  rw [hv.out] at h
  exact h
theorem isSpace_is {c : UInt8} {v : Bool} (hv : Hid (Lx.space c = v)) (w : World) :
    Calls Tryz.prog 97 #[.int .u8 c.toNat] w fun e w' => e = .returned (.bool v) ∧ w' = w := by
  have h := isSpace_any c w
  rw [hv.out] at h
  exact h
theorem isPart_is {c : UInt8} {v : Bool} (hv : Hid (Lx.part c = v)) (w : World) :
    Calls Tryz.prog 100 #[.int .u8 c.toNat] w fun e w' => e = .returned (.bool v) ∧ w' = w := by
  have h := isPart_any c w
  rw [hv.out] at h
  exact h
end Go.Proofs.YtdchnjijdkgfhaaGreatDoor
