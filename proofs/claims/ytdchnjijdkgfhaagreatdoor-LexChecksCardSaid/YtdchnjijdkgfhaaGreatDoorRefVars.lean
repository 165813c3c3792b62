/- The reference's reader: type variables. -/
import Derived.Test.YtdchnjijdkgfhaaGreatDoorRefSigns
namespace Go.Proofs.YtdchnjijdkgfhaaGreatDoor
open Go.RowKit

theorem plainR_is (s : ByteArray) (hs : s.size ≤ 140737488355328) (n : Int) (k : Nat) (hn : n = (k : Int)) (hk : k ≤ s.size) {J : Nat} (hJ : Hid (k + Lx.span Lx.part (rest s k) = J)) (w : World) :
    Calls Tryz.prog 57 #[.string s, .int .i64 n] w fun e w' => e = .returned (.int .i64 (J : Int)) ∧ w' = w := by
  subst hn
  have h := plainR_any s hs k hk w
  rw [hJ.out] at h
  exact h

set_option maxRecDepth 100000 in
set_option maxHeartbeats 2000000 in
theorem read_var_long (s : ByteArray) (hs : s.size ≤ 140737488355328) (i : Nat) (hi : i < s.size) (b126 : ((s[i].toNat : Int) == 126) = false) (hdg : Hid (Lx.digit s[i] = false)) (b39 : ((s[i].toNat : Int) == 39) = true) (hq : i + 1 < s.size) (hsq : Hid (Lx.small (s[i + 1]'hq) = true)) (J : Nat) (hJ : Hid (i + 1 + Lx.span Lx.part (rest s (i + 1)) = J)) (hiJ : i ≤ J) (hJs : J ≤ s.size) (hl : 24 < J - i) (w : World) :
    Calls Tryz.prog 37 #[.string s, .int .i64 i] w fun e w' => e = .returned (.tuple #[tokV 0 0 ⟨#[]⟩ 0, .int .i64 2]) ∧ Old w w' := by
  have hlt : (i : Int) < (s.size : Int) := by omega
  have hw1 : wrap64 ((i : Int) + 1) = (i : Int) + 1 := IntWalk.wrap64_in _ (by omega)
  have hd1 : decide ((i : Int) + 1 < (s.size : Int)) = true := by simp only [decide_eq_true_eq]; omega
  have hl1 : (i : Int) + 1 < (s.size : Int) := by omega
  have hl2 : 0 ≤ (i : Int) + 1 := by omega
  have hl3 : ((i : Int) + 1).toNat = i + 1 := by omega
  have hwJ : wrap64 ((J : Int) - (i : Int)) = (J : Int) - (i : Int) := IntWalk.wrap64_in _ (by omega)
  have hdl : decide ((24 : Int) < (J : Int) - (i : Int)) = true := by simp only [decide_eq_true_eq]; omega
  have hpl : (24 : Int) < (J : Int) - (i : Int) := by omega
  have hx1 : (i : Int) ≤ (J : Int) := by omega
  have hx2 : (J : Int) ≤ (s.size : Int) := by omega
  go_enter Tryz.func37, Tryz.ntmps37
  go_wp2_with fail
  refine (digitR_is hdg _).mono ?_
  rintro e w1 ⟨rfl, rfl⟩
  go_wp2_with fail
  refine (smallR_is hsq _).mono ?_
  rintro e w1 ⟨rfl, rfl⟩
  go_wp2_with fail
  (with_reducible refine (plainR_is s hs _ (i + 1) (by omega) (by omega) hJ _).mono ?_)
  rintro e w1 ⟨rfl, rfl⟩
  obtain ⟨c0, c1, c2, c3, g0, g1, g2, g3⟩ := (Blk.new' (b := w.heap.size) rfl #[.int .i64 0, .int .i64 0, .string ⟨#[]⟩, .int .i64 0] 41).four
  go_wp2
  refine bodyPost_ret (v := .tuple #[tokV 0 0 ⟨#[]⟩ 0, .int .i64 2]) (by simp [results, Tryz.results37, go_sem, tokV, c0, c1, c2, c3]) rfl ⟨rfl, ?_⟩
  first | exact (Old.refl w).alloc _ | exact ((Old.refl w).alloc _).set4 (Nat.le_refl _) _ _ _ _

set_option maxRecDepth 100000 in
set_option maxHeartbeats 2000000 in
theorem read_var_fit (s : ByteArray) (hs : s.size ≤ 140737488355328) (i : Nat) (hi : i < s.size) (b126 : ((s[i].toNat : Int) == 126) = false) (hdg : Hid (Lx.digit s[i] = false)) (b39 : ((s[i].toNat : Int) == 39) = true) (hq : i + 1 < s.size) (hsq : Hid (Lx.small (s[i + 1]'hq) = true)) (J : Nat) (hJ : Hid (i + 1 + Lx.span Lx.part (rest s (i + 1)) = J)) (hiJ : i ≤ J) (hJs : J ≤ s.size) (hl : J - i ≤ 24) (w : World) :
    Calls Tryz.prog 37 #[.string s, .int .i64 i] w fun e w' => e = .returned (.tuple #[tokV 4 0 (s.extract i J) i, .int .i64 0]) ∧ Old w w' := by
  have hlt : (i : Int) < (s.size : Int) := by omega
  have hw1 : wrap64 ((i : Int) + 1) = (i : Int) + 1 := IntWalk.wrap64_in _ (by omega)
  have hd1 : decide ((i : Int) + 1 < (s.size : Int)) = true := by simp only [decide_eq_true_eq]; omega
  have hl1 : (i : Int) + 1 < (s.size : Int) := by omega
  have hl2 : 0 ≤ (i : Int) + 1 := by omega
  have hl3 : ((i : Int) + 1).toNat = i + 1 := by omega
  have hwJ : wrap64 ((J : Int) - (i : Int)) = (J : Int) - (i : Int) := IntWalk.wrap64_in _ (by omega)
  have hdl : decide ((24 : Int) < (J : Int) - (i : Int)) = false := by simp only [decide_eq_false_iff_not]; omega
  have hpl : (J : Int) - (i : Int) ≤ 24 := by omega
  have hx1 : (i : Int) ≤ (J : Int) := by omega
  have hx2 : (J : Int) ≤ (s.size : Int) := by omega
  go_enter Tryz.func37, Tryz.ntmps37
  go_wp2_with fail
  refine (digitR_is hdg _).mono ?_
  rintro e w1 ⟨rfl, rfl⟩
  go_wp2_with fail
  refine (smallR_is hsq _).mono ?_
  rintro e w1 ⟨rfl, rfl⟩
  go_wp2_with fail
  (with_reducible refine (plainR_is s hs _ (i + 1) (by omega) (by omega) hJ _).mono ?_)
  rintro e w1 ⟨rfl, rfl⟩
  obtain ⟨c0, c1, c2, c3, g0, g1, g2, g3⟩ := (Blk.new' (b := w.heap.size) rfl #[.int .i64 0, .int .i64 0, .string ⟨#[]⟩, .int .i64 0] 41).four
  go_wp2
  refine bodyPost_ret (v := .tuple #[tokV 4 0 (s.extract i J) i, .int .i64 0]) (by simp [results, Tryz.results37, go_sem, tokV, c0, c1, c2, c3]) rfl ⟨rfl, ?_⟩
  first | exact (Old.refl w).alloc _ | exact ((Old.refl w).alloc _).set4 (Nat.le_refl _) _ _ _ _

end Go.Proofs.YtdchnjijdkgfhaaGreatDoor
