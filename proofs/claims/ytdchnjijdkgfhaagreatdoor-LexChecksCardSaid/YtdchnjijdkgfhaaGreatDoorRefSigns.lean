/- The reference's reader: signs, and bytes that begin nothing. -/
import Derived.Test.YtdchnjijdkgfhaaGreatDoorRefSign2
namespace Go.Proofs.YtdchnjijdkgfhaaGreatDoor
open Go.RowKit

theorem smallR_is {c : UInt8} {v : Bool} (hv : Hid (Lx.small c = v)) (w : World) :
    Calls Tryz.prog 56 #[.int .u8 c.toNat] w fun e w' => e = .returned (.bool v) ∧ w' = w := by
  have h := smallR_any c w
  rw [hv.out] at h
  exact h
theorem capitalR_is {c : UInt8} {v : Bool} (hv : Hid (Lx.capital c = v)) (w : World) :
    Calls Tryz.prog 58 #[.int .u8 c.toNat] w fun e w' => e = .returned (.bool v) ∧ w' = w := by
  have h := capitalR_any c w
  rw [hv.out] at h
  exact h
theorem signR_is (s : ByteArray) (hs : s.size ≤ 140737488355328) (i : Nat) (hi : i < s.size) {N : Nat} (hN : Hid (Lx.signLen (rest s i) = N)) (w : World) :
    Calls Tryz.prog 61 #[.string s, .int .i64 i] w fun e w' => e = .returned (.int .i64 (N : Int)) ∧ ∃ n, w' = w.drewN n := by
  have h := signR_any s hs i hi w
  rw [hN.out] at h
  exact h

set_option maxRecDepth 100000 in
set_option maxHeartbeats 2000000 in
theorem read_sign_bare_none (s : ByteArray) (hs : s.size ≤ 140737488355328) (i : Nat) (hi : i < s.size) (b126 : ((s[i].toNat : Int) == 126) = false) (hdg : Hid (Lx.digit s[i] = false)) (b39 : ((s[i].toNat : Int) == 39) = false) (hsm : Hid (Lx.small s[i] = false)) (hcp : Hid (Lx.capital s[i] = false)) (hN : Hid (Lx.signLen (rest s i) = 0)) (w : World) :
    Calls Tryz.prog 37 #[.string s, .int .i64 i] w fun e w' => e = .returned (.tuple #[tokV 0 0 ⟨#[]⟩ 0, .int .i64 11]) ∧ Old w w' := by
  have hlt : (i : Int) < (s.size : Int) := by omega
  go_enter Tryz.func37, Tryz.ntmps37
  go_wp2_with fail
  refine (digitR_is hdg _).mono ?_
  rintro e w1 ⟨rfl, rfl⟩
  go_wp2_with fail
  refine (smallR_is hsm _).mono ?_
  rintro e w1 ⟨rfl, rfl⟩
  go_wp2_with fail
  refine (capitalR_is hcp _).mono ?_
  rintro e w1 ⟨rfl, rfl⟩
  go_wp2_with fail
  (with_reducible refine (signR_is s hs i hi hN _).mono ?_)
  rintro e w1 ⟨rfl, n, rfl⟩
  obtain ⟨c0, c1, c2, c3, g0, g1, g2, g3⟩ := ((Blk.new' (b := w.heap.size) rfl #[.int .i64 0, .int .i64 0, .string ⟨#[]⟩, .int .i64 0] 41).drewN n).four
  go_wp2
  refine bodyPost_ret (v := .tuple #[tokV 0 0 ⟨#[]⟩ 0, .int .i64 11]) (by simp [results, Tryz.results37, go_sem, tokV, c0, c1, c2, c3]) rfl ⟨rfl, ?_⟩
  first | exact (Old.refl w).alloc _ | exact (((Old.refl w).alloc _).drewN n).set4 (Nat.le_refl _) _ _ _ _

set_option maxRecDepth 100000 in
set_option maxHeartbeats 2000000 in
theorem read_sign_bare_some (s : ByteArray) (hs : s.size ≤ 140737488355328) (i : Nat) (hi : i < s.size) (b126 : ((s[i].toNat : Int) == 126) = false) (hdg : Hid (Lx.digit s[i] = false)) (b39 : ((s[i].toNat : Int) == 39) = false) (hsm : Hid (Lx.small s[i] = false)) (hcp : Hid (Lx.capital s[i] = false)) (N : Nat) (hN : Hid (Lx.signLen (rest s i) = N)) (h0 : 0 < N) (hle : i + N ≤ s.size) (w : World) :
    Calls Tryz.prog 37 #[.string s, .int .i64 i] w fun e w' => e = .returned (.tuple #[tokV 6 0 (s.extract i (i + N)) i, .int .i64 0]) ∧ Old w w' := by
  have hlt : (i : Int) < (s.size : Int) := by omega
  have hz : ((N : Int) == 0) = false := by rw [beq_eq_false_iff_ne]; omega
  have hwN : wrap64 ((i : Int) + (N : Int)) = ((i + N : Nat) : Int) := by rw [IntWalk.wrap64_in _ (by omega)]; omega
  have hx1 : (i : Int) ≤ ((i + N : Nat) : Int) := by omega
  have hx2 : ((i + N : Nat) : Int) ≤ (s.size : Int) := by omega
  go_enter Tryz.func37, Tryz.ntmps37
  go_wp2_with fail
  refine (digitR_is hdg _).mono ?_
  rintro e w1 ⟨rfl, rfl⟩
  go_wp2_with fail
  refine (smallR_is hsm _).mono ?_
  rintro e w1 ⟨rfl, rfl⟩
  go_wp2_with fail
  refine (capitalR_is hcp _).mono ?_
  rintro e w1 ⟨rfl, rfl⟩
  go_wp2_with fail
  (with_reducible refine (signR_is s hs i hi hN _).mono ?_)
  rintro e w1 ⟨rfl, n, rfl⟩
  obtain ⟨c0, c1, c2, c3, g0, g1, g2, g3⟩ := ((Blk.new' (b := w.heap.size) rfl #[.int .i64 0, .int .i64 0, .string ⟨#[]⟩, .int .i64 0] 41).drewN n).four
  go_wp2
  refine bodyPost_ret (v := .tuple #[tokV 6 0 (s.extract i (i + N)) i, .int .i64 0]) (by simp [results, Tryz.results37, go_sem, tokV, c0, c1, c2, c3]) rfl ⟨rfl, ?_⟩
  first | exact (Old.refl w).alloc _ | exact (((Old.refl w).alloc _).drewN n).set4 (Nat.le_refl _) _ _ _ _

set_option maxRecDepth 100000 in
set_option maxHeartbeats 2000000 in
theorem read_sign_end_none (s : ByteArray) (hs : s.size ≤ 140737488355328) (i : Nat) (hi : i < s.size) (b126 : ((s[i].toNat : Int) == 126) = false) (hdg : Hid (Lx.digit s[i] = false)) (b39 : ((s[i].toNat : Int) == 39) = true) (hq : ¬ i + 1 < s.size) (hsm : Hid (Lx.small s[i] = false)) (hcp : Hid (Lx.capital s[i] = false)) (hN : Hid (Lx.signLen (rest s i) = 0)) (w : World) :
    Calls Tryz.prog 37 #[.string s, .int .i64 i] w fun e w' => e = .returned (.tuple #[tokV 0 0 ⟨#[]⟩ 0, .int .i64 11]) ∧ Old w w' := by
  have hlt : (i : Int) < (s.size : Int) := by omega
  have hw1 : wrap64 ((i : Int) + 1) = (i : Int) + 1 := IntWalk.wrap64_in _ (by omega)
  have hd1 : decide ((i : Int) + 1 < (s.size : Int)) = false := by simp only [decide_eq_false_iff_not]; omega
  go_enter Tryz.func37, Tryz.ntmps37
  go_wp2_with fail
  refine (digitR_is hdg _).mono ?_
  rintro e w1 ⟨rfl, rfl⟩
  go_wp2_with fail
  refine (smallR_is hsm _).mono ?_
  rintro e w1 ⟨rfl, rfl⟩
  go_wp2_with fail
  refine (capitalR_is hcp _).mono ?_
  rintro e w1 ⟨rfl, rfl⟩
  go_wp2_with fail
  (with_reducible refine (signR_is s hs i hi hN _).mono ?_)
  rintro e w1 ⟨rfl, n, rfl⟩
  obtain ⟨c0, c1, c2, c3, g0, g1, g2, g3⟩ := ((Blk.new' (b := w.heap.size) rfl #[.int .i64 0, .int .i64 0, .string ⟨#[]⟩, .int .i64 0] 41).drewN n).four
  go_wp2
  refine bodyPost_ret (v := .tuple #[tokV 0 0 ⟨#[]⟩ 0, .int .i64 11]) (by simp [results, Tryz.results37, go_sem, tokV, c0, c1, c2, c3]) rfl ⟨rfl, ?_⟩
  first | exact (Old.refl w).alloc _ | exact (((Old.refl w).alloc _).drewN n).set4 (Nat.le_refl _) _ _ _ _

set_option maxRecDepth 100000 in
set_option maxHeartbeats 2000000 in
theorem read_sign_end_some (s : ByteArray) (hs : s.size ≤ 140737488355328) (i : Nat) (hi : i < s.size) (b126 : ((s[i].toNat : Int) == 126) = false) (hdg : Hid (Lx.digit s[i] = false)) (b39 : ((s[i].toNat : Int) == 39) = true) (hq : ¬ i + 1 < s.size) (hsm : Hid (Lx.small s[i] = false)) (hcp : Hid (Lx.capital s[i] = false)) (N : Nat) (hN : Hid (Lx.signLen (rest s i) = N)) (h0 : 0 < N) (hle : i + N ≤ s.size) (w : World) :
    Calls Tryz.prog 37 #[.string s, .int .i64 i] w fun e w' => e = .returned (.tuple #[tokV 6 0 (s.extract i (i + N)) i, .int .i64 0]) ∧ Old w w' := by
  have hlt : (i : Int) < (s.size : Int) := by omega
  have hw1 : wrap64 ((i : Int) + 1) = (i : Int) + 1 := IntWalk.wrap64_in _ (by omega)
  have hd1 : decide ((i : Int) + 1 < (s.size : Int)) = false := by simp only [decide_eq_false_iff_not]; omega
  have hz : ((N : Int) == 0) = false := by rw [beq_eq_false_iff_ne]; omega
  have hwN : wrap64 ((i : Int) + (N : Int)) = ((i + N : Nat) : Int) := by rw [IntWalk.wrap64_in _ (by omega)]; omega
  have hx1 : (i : Int) ≤ ((i + N : Nat) : Int) := by omega
  have hx2 : ((i + N : Nat) : Int) ≤ (s.size : Int) := by omega
  go_enter Tryz.func37, Tryz.ntmps37
  go_wp2_with fail
  refine (digitR_is hdg _).mono ?_
  rintro e w1 ⟨rfl, rfl⟩
  go_wp2_with fail
  refine (smallR_is hsm _).mono ?_
  rintro e w1 ⟨rfl, rfl⟩
  go_wp2_with fail
  refine (capitalR_is hcp _).mono ?_
  rintro e w1 ⟨rfl, rfl⟩
  go_wp2_with fail
  (with_reducible refine (signR_is s hs i hi hN _).mono ?_)
  rintro e w1 ⟨rfl, n, rfl⟩
  obtain ⟨c0, c1, c2, c3, g0, g1, g2, g3⟩ := ((Blk.new' (b := w.heap.size) rfl #[.int .i64 0, .int .i64 0, .string ⟨#[]⟩, .int .i64 0] 41).drewN n).four
  go_wp2
  refine bodyPost_ret (v := .tuple #[tokV 6 0 (s.extract i (i + N)) i, .int .i64 0]) (by simp [results, Tryz.results37, go_sem, tokV, c0, c1, c2, c3]) rfl ⟨rfl, ?_⟩
  first | exact (Old.refl w).alloc _ | exact (((Old.refl w).alloc _).drewN n).set4 (Nat.le_refl _) _ _ _ _

set_option maxRecDepth 100000 in
set_option maxHeartbeats 2000000 in
theorem read_sign_quote_none (s : ByteArray) (hs : s.size ≤ 140737488355328) (i : Nat) (hi : i < s.size) (b126 : ((s[i].toNat : Int) == 126) = false) (hdg : Hid (Lx.digit s[i] = false)) (b39 : ((s[i].toNat : Int) == 39) = true) (hq : i + 1 < s.size) (hsq : Hid (Lx.small (s[i + 1]'hq) = false)) (hsm : Hid (Lx.small s[i] = false)) (hcp : Hid (Lx.capital s[i] = false)) (hN : Hid (Lx.signLen (rest s i) = 0)) (w : World) :
    Calls Tryz.prog 37 #[.string s, .int .i64 i] w fun e w' => e = .returned (.tuple #[tokV 0 0 ⟨#[]⟩ 0, .int .i64 11]) ∧ Old w w' := by
  have hlt : (i : Int) < (s.size : Int) := by omega
  have hw1 : wrap64 ((i : Int) + 1) = (i : Int) + 1 := IntWalk.wrap64_in _ (by omega)
  have hd1 : decide ((i : Int) + 1 < (s.size : Int)) = true := by simp only [decide_eq_true_eq]; omega
  have hl1 : (i : Int) + 1 < (s.size : Int) := by omega
  have hl2 : 0 ≤ (i : Int) + 1 := by omega
  have hl3 : ((i : Int) + 1).toNat = i + 1 := by omega
  go_enter Tryz.func37, Tryz.ntmps37
  go_wp2_with fail
  refine (digitR_is hdg _).mono ?_
  rintro e w1 ⟨rfl, rfl⟩
  go_wp2_with fail
  refine (smallR_is hsq _).mono ?_
  rintro e w1 ⟨rfl, rfl⟩
  go_wp2_with fail
  refine (smallR_is hsm _).mono ?_
  rintro e w1 ⟨rfl, rfl⟩
  go_wp2_with fail
  refine (capitalR_is hcp _).mono ?_
  rintro e w1 ⟨rfl, rfl⟩
  go_wp2_with fail
  (with_reducible refine (signR_is s hs i hi hN _).mono ?_)
  rintro e w1 ⟨rfl, n, rfl⟩
  obtain ⟨c0, c1, c2, c3, g0, g1, g2, g3⟩ := ((Blk.new' (b := w.heap.size) rfl #[.int .i64 0, .int .i64 0, .string ⟨#[]⟩, .int .i64 0] 41).drewN n).four
  go_wp2
  refine bodyPost_ret (v := .tuple #[tokV 0 0 ⟨#[]⟩ 0, .int .i64 11]) (by simp [results, Tryz.results37, go_sem, tokV, c0, c1, c2, c3]) rfl ⟨rfl, ?_⟩
  first | exact (Old.refl w).alloc _ | exact (((Old.refl w).alloc _).drewN n).set4 (Nat.le_refl _) _ _ _ _

set_option maxRecDepth 100000 in
set_option maxHeartbeats 2000000 in
theorem read_sign_quote_some (s : ByteArray) (hs : s.size ≤ 140737488355328) (i : Nat) (hi : i < s.size) (b126 : ((s[i].toNat : Int) == 126) = false) (hdg : Hid (Lx.digit s[i] = false)) (b39 : ((s[i].toNat : Int) == 39) = true) (hq : i + 1 < s.size) (hsq : Hid (Lx.small (s[i + 1]'hq) = false)) (hsm : Hid (Lx.small s[i] = false)) (hcp : Hid (Lx.capital s[i] = false)) (N : Nat) (hN : Hid (Lx.signLen (rest s i) = N)) (h0 : 0 < N) (hle : i + N ≤ s.size) (w : World) :
    Calls Tryz.prog 37 #[.string s, .int .i64 i] w fun e w' => e = .returned (.tuple #[tokV 6 0 (s.extract i (i + N)) i, .int .i64 0]) ∧ Old w w' := by
  have hlt : (i : Int) < (s.size : Int) := by omega
  have hw1 : wrap64 ((i : Int) + 1) = (i : Int) + 1 := IntWalk.wrap64_in _ (by omega)
  have hd1 : decide ((i : Int) + 1 < (s.size : Int)) = true := by simp only [decide_eq_true_eq]; omega
  have hl1 : (i : Int) + 1 < (s.size : Int) := by omega
  have hl2 : 0 ≤ (i : Int) + 1 := by omega
  have hl3 : ((i : Int) + 1).toNat = i + 1 := by omega
  have hz : ((N : Int) == 0) = false := by rw [beq_eq_false_iff_ne]; omega
  have hwN : wrap64 ((i : Int) + (N : Int)) = ((i + N : Nat) : Int) := by rw [IntWalk.wrap64_in _ (by omega)]; omega
  have hx1 : (i : Int) ≤ ((i + N : Nat) : Int) := by omega
  have hx2 : ((i + N : Nat) : Int) ≤ (s.size : Int) := by omega
  go_enter Tryz.func37, Tryz.ntmps37
  go_wp2_with fail
  refine (digitR_is hdg _).mono ?_
  rintro e w1 ⟨rfl, rfl⟩
  go_wp2_with fail
  refine (smallR_is hsq _).mono ?_
  rintro e w1 ⟨rfl, rfl⟩
  go_wp2_with fail
  refine (smallR_is hsm _).mono ?_
  rintro e w1 ⟨rfl, rfl⟩
  go_wp2_with fail
  refine (capitalR_is hcp _).mono ?_
  rintro e w1 ⟨rfl, rfl⟩
  go_wp2_with fail
  (with_reducible refine (signR_is s hs i hi hN _).mono ?_)
  rintro e w1 ⟨rfl, n, rfl⟩
  obtain ⟨c0, c1, c2, c3, g0, g1, g2, g3⟩ := ((Blk.new' (b := w.heap.size) rfl #[.int .i64 0, .int .i64 0, .string ⟨#[]⟩, .int .i64 0] 41).drewN n).four
  go_wp2
  refine bodyPost_ret (v := .tuple #[tokV 6 0 (s.extract i (i + N)) i, .int .i64 0]) (by simp [results, Tryz.results37, go_sem, tokV, c0, c1, c2, c3]) rfl ⟨rfl, ?_⟩
  first | exact (Old.refl w).alloc _ | exact (((Old.refl w).alloc _).drewN n).set4 (Nat.le_refl _) _ _ _ _

end Go.Proofs.YtdchnjijdkgfhaaGreatDoor
