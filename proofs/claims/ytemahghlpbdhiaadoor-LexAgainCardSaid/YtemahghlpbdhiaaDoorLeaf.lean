/- The tests of one byte: each function of the code that asks what a byte is returns what the plain function says, and leaves the world alone. -/
import Derived.Test.YtemahghlpbdhiaaDoorProg
import Derived.Test.YtemahghlpbdhiaaDoorSpec
import Derived.Test.YtemahghlpbdhiaaDoorBase
import Derived.WalkSpells
import Derived.WalkLawsBesides
import Derived.Deep.QuietTactic
import Derived.BigQuiet
namespace Go.Proofs.YtemahghlpbdhiaaDoor
open Go.RowKit


set_option maxHeartbeats 400000 in
theorem isSmall_any (c : UInt8) (w : World) :
    Calls Tryd.prog 76 #[.int .u8 c.toNat] w fun e w' => e = .returned (.bool (Lx.small c)) ∧ w' = w := by
  go_enter Tryd.func76, Tryd.ntmps76
  go_wp2
  all_goals
    go_ret
    exact ⟨ret_bool (by rw [Bool.eq_iff_iff]; simp [Lx.small]; try omega), rfl⟩

set_option maxHeartbeats 400000 in
theorem isCapital_any (c : UInt8) (w : World) :
    Calls Tryd.prog 78 #[.int .u8 c.toNat] w fun e w' => e = .returned (.bool (Lx.capital c)) ∧ w' = w := by
  go_enter Tryd.func78, Tryd.ntmps78
  go_wp2
  all_goals
    go_ret
    exact ⟨ret_bool (by rw [Bool.eq_iff_iff]; simp [Lx.capital]; try omega), rfl⟩

set_option maxHeartbeats 400000 in
theorem isDigit_any (c : UInt8) (w : World) :
    Calls Tryd.prog 80 #[.int .u8 c.toNat] w fun e w' => e = .returned (.bool (Lx.digit c)) ∧ w' = w := by
  go_enter Tryd.func80, Tryd.ntmps80
  go_wp2
  all_goals
    go_ret
    exact ⟨ret_bool (by rw [Bool.eq_iff_iff]; simp [Lx.digit]; try omega), rfl⟩

set_option maxHeartbeats 400000 in
theorem isSpace_any (c : UInt8) (w : World) :
    Calls Tryd.prog 94 #[.int .u8 c.toNat] w fun e w' => e = .returned (.bool (Lx.space c)) ∧ w' = w := by
  go_enter Tryd.func94, Tryd.ntmps94
  go_wp2
  all_goals
    go_ret
    exact ⟨ret_bool (by rw [Bool.eq_iff_iff]; simp [Lx.space]; try omega), rfl⟩

set_option maxHeartbeats 400000 in
theorem isPart_any (c : UInt8) (w : World) :
    Calls Tryd.prog 97 #[.int .u8 c.toNat] w fun e w' => e = .returned (.bool (Lx.part c)) ∧ w' = w := by
  go_enter Tryd.func97, Tryd.ntmps97
  go_wp2_with (first | (go_at_call 76; refine (isSmall_any _ _).mono ?_; rintro e w' ⟨rfl, rfl⟩) | (go_at_call 78; refine (isCapital_any _ _).mono ?_; rintro e w' ⟨rfl, rfl⟩) | (go_at_call 80; refine (isDigit_any _ _).mono ?_; rintro e w' ⟨rfl, rfl⟩))
  all_goals
    go_ret
    refine ⟨ret_bool ?_, rfl⟩
    rw [Bool.eq_iff_iff]
    simp [Lx.part, *]
    try omega
theorem isSmall_is {c : UInt8} {v : Bool} (hv : Hid (Lx.small c = v)) (w : World) :
    Calls Tryd.prog 76 #[.int .u8 c.toNat] w fun e w' => e = .returned (.bool v) ∧ w' = w := by
  have h := isSmall_any c w
  rw [hv.out] at h
  exact h
theorem isCapital_is {c : UInt8} {v : Bool} (hv : Hid (Lx.capital c = v)) (w : World) :
    Calls Tryd.prog 78 #[.int .u8 c.toNat] w fun e w' => e = .returned (.bool v) ∧ w' = w := by
  have h := isCapital_any c w
  rw [hv.out] at h
  exact h
theorem isDigit_is {c : UInt8} {v : Bool} (hv : Hid (Lx.digit c = v)) (w : World) :
    Calls Tryd.prog 80 #[.int .u8 c.toNat] w fun e w' => e = .returned (.bool v) ∧ w' = w := by
  have h := isDigit_any c w
  rw [hv.out] at h
  exact h
theorem isSpace_is {c : UInt8} {v : Bool} (hv : Hid (Lx.space c = v)) (w : World) :
    Calls Tryd.prog 94 #[.int .u8 c.toNat] w fun e w' => e = .returned (.bool v) ∧ w' = w := by
  have h := isSpace_any c w
  rw [hv.out] at h
  exact h
theorem isPart_is {c : UInt8} {v : Bool} (hv : Hid (Lx.part c = v)) (w : World) :
    Calls Tryd.prog 97 #[.int .u8 c.toNat] w fun e w' => e = .returned (.bool v) ∧ w' = w := by
  have h := isPart_any c w
  rw [hv.out] at h
  exact h
end Go.Proofs.YtemahghlpbdhiaaDoor
