/- The reference's reader: names, constructors' names, words. -/
import Derived.Test.YtdchnjijdkgfhaaGreatDoorRefSigns
import Derived.Test.YtdchnjijdkgfhaaGreatDoorRefName
import Derived.Test.YtdchnjijdkgfhaaGreatDoorRefWord
namespace Go.Proofs.YtdchnjijdkgfhaaGreatDoor
open Go.RowKit

theorem namedR_is (s : ByteArray) (hs : s.size ≤ 140737488355328) (i : Nat) (hi : i ≤ s.size) {J : Nat} (hJ : Hid (i + Lx.nameLen (rest s i) = J)) (w : World) :
    Calls Tryz.prog 59 #[.string s, .int .i64 i] w fun e w' => e = .returned (.int .i64 (J : Int)) ∧ w' = w := by
  have h := namedR_any s hs i hi w
  rw [hJ.out] at h
  exact h
theorem wordR_is (s : ByteArray) {v : Bool} (hv : Hid (Lx.isWord s.data.toList = v)) (w : World) :
    Calls Tryz.prog 60 #[.string s] w fun e w' => e = .returned (.bool v) ∧ Old w w' := by
  have h := wordR_any s w
  rw [hv.out] at h
  exact h

set_option maxRecDepth 100000 in
set_option maxHeartbeats 2000000 in
theorem read_small_long (s : ByteArray) (hs : s.size ≤ 140737488355328) (i : Nat) (hi : i < s.size) (b126 : ((s[i].toNat : Int) == 126) = false) (hdg : Hid (Lx.digit s[i] = false)) (b39 : ((s[i].toNat : Int) == 39) = false) (hsm : Hid (Lx.small s[i] = true)) (hcp : Hid (Lx.capital s[i] = false)) (J : Nat) (hJ : Hid (i + Lx.nameLen (rest s i) = J)) (hiJ : i ≤ J) (hJs : J ≤ s.size) (hl : 24 < J - i) (w : World) :
    Calls Tryz.prog 37 #[.string s, .int .i64 i] w fun e w' => e = .returned (.tuple #[tokV 0 0 ⟨#[]⟩ 0, .int .i64 2]) ∧ Old w w' := by
  have hlt : (i : Int) < (s.size : Int) := by omega
  have hwJ : wrap64 ((J : Int) - (i : Int)) = (J : Int) - (i : Int) := IntWalk.wrap64_in _ (by omega)
  have hdl : decide ((24 : Int) < (J : Int) - (i : Int)) = true := by simp only [decide_eq_true_eq]; omega
  have hpl : (24 : Int) < (J : Int) - (i : Int) := by omega
  have hx1 : (i : Int) ≤ (J : Int) := by omega
  have hx2 : (J : Int) ≤ (s.size : Int) := by omega
  go_enter Tryz.func37, Tryz.ntmps37
  go_wp2_with fail
  refine (digitR_is hdg _).mono ?_
  rintro e w1 ⟨rfl, rfl⟩
  go_wp2_with fail
  refine (smallR_is hsm _).mono ?_
  rintro e w1 ⟨rfl, rfl⟩
  go_wp2_with fail
  (with_reducible refine (namedR_is s hs i (Nat.le_of_lt hi) hJ _).mono ?_)
  rintro e w1 ⟨rfl, rfl⟩
  obtain ⟨c0, c1, c2, c3, g0, g1, g2, g3⟩ := (Blk.new' (b := w.heap.size) rfl #[.int .i64 0, .int .i64 0, .string ⟨#[]⟩, .int .i64 0] 41).four
  go_wp2
  refine bodyPost_ret (v := .tuple #[tokV 0 0 ⟨#[]⟩ 0, .int .i64 2]) (by simp [results, Tryz.results37, go_sem, tokV, c0, c1, c2, c3]) rfl ⟨rfl, ?_⟩
  first | exact (Old.refl w).alloc _ | exact ((Old.refl w).alloc _).set4 (Nat.le_refl _) _ _ _ _

set_option maxRecDepth 100000 in
set_option maxHeartbeats 2000000 in
theorem read_small_name (s : ByteArray) (hs : s.size ≤ 140737488355328) (i : Nat) (hi : i < s.size) (b126 : ((s[i].toNat : Int) == 126) = false) (hdg : Hid (Lx.digit s[i] = false)) (b39 : ((s[i].toNat : Int) == 39) = false) (hsm : Hid (Lx.small s[i] = true)) (hcp : Hid (Lx.capital s[i] = false)) (J : Nat) (hJ : Hid (i + Lx.nameLen (rest s i) = J)) (hiJ : i ≤ J) (hJs : J ≤ s.size) (hl : J - i ≤ 24) (hw : Hid (Lx.isWord (s.extract i J).data.toList = false)) (w : World) :
    Calls Tryz.prog 37 #[.string s, .int .i64 i] w fun e w' => e = .returned (.tuple #[tokV 2 0 (s.extract i J) i, .int .i64 0]) ∧ Old w w' := by
  have hlt : (i : Int) < (s.size : Int) := by omega
  have hwJ : wrap64 ((J : Int) - (i : Int)) = (J : Int) - (i : Int) := IntWalk.wrap64_in _ (by omega)
  have hdl : decide ((24 : Int) < (J : Int) - (i : Int)) = false := by simp only [decide_eq_false_iff_not]; omega
  have hpl : (J : Int) - (i : Int) ≤ 24 := by omega
  have hx1 : (i : Int) ≤ (J : Int) := by omega
  have hx2 : (J : Int) ≤ (s.size : Int) := by omega
  go_enter Tryz.func37, Tryz.ntmps37
  go_wp2_with fail
  refine (digitR_is hdg _).mono ?_
  rintro e w1 ⟨rfl, rfl⟩
  go_wp2_with fail
  refine (smallR_is hsm _).mono ?_
  rintro e w1 ⟨rfl, rfl⟩
  go_wp2_with fail
  (with_reducible refine (namedR_is s hs i (Nat.le_of_lt hi) hJ _).mono ?_)
  rintro e w1 ⟨rfl, rfl⟩
  go_wp2_with fail
  refine (capitalR_is hcp _).mono ?_
  rintro e w1 ⟨rfl, rfl⟩
  go_wp2_with fail
  (with_reducible refine (wordR_is _ hw _).mono ?_)
  rintro e w1 ⟨rfl, f1⟩
  obtain ⟨c0, c1, c2, c3, g0, g1, g2, g3⟩ := ((Blk.new' (b := w.heap.size) rfl #[.int .i64 0, .int .i64 0, .string ⟨#[]⟩, .int .i64 0] 41).keep f1 (fun e => e)).four
  go_wp2
  refine bodyPost_ret (v := .tuple #[tokV 2 0 (s.extract i J) i, .int .i64 0]) (by simp [results, Tryz.results37, go_sem, tokV, c0, c1, c2, c3]) rfl ⟨rfl, ?_⟩
  first | exact (Old.refl w).alloc _ | exact (((Old.refl w).alloc _).trans f1).set4 (Nat.le_refl _) _ _ _ _

set_option maxRecDepth 100000 in
set_option maxHeartbeats 2000000 in
theorem read_small_word (s : ByteArray) (hs : s.size ≤ 140737488355328) (i : Nat) (hi : i < s.size) (b126 : ((s[i].toNat : Int) == 126) = false) (hdg : Hid (Lx.digit s[i] = false)) (b39 : ((s[i].toNat : Int) == 39) = false) (hsm : Hid (Lx.small s[i] = true)) (hcp : Hid (Lx.capital s[i] = false)) (J : Nat) (hJ : Hid (i + Lx.nameLen (rest s i) = J)) (hiJ : i ≤ J) (hJs : J ≤ s.size) (hl : J - i ≤ 24) (hw : Hid (Lx.isWord (s.extract i J).data.toList = true)) (w : World) :
    Calls Tryz.prog 37 #[.string s, .int .i64 i] w fun e w' => e = .returned (.tuple #[tokV 5 0 (s.extract i J) i, .int .i64 0]) ∧ Old w w' := by
  have hlt : (i : Int) < (s.size : Int) := by omega
  have hwJ : wrap64 ((J : Int) - (i : Int)) = (J : Int) - (i : Int) := IntWalk.wrap64_in _ (by omega)
  have hdl : decide ((24 : Int) < (J : Int) - (i : Int)) = false := by simp only [decide_eq_false_iff_not]; omega
  have hpl : (J : Int) - (i : Int) ≤ 24 := by omega
  have hx1 : (i : Int) ≤ (J : Int) := by omega
  have hx2 : (J : Int) ≤ (s.size : Int) := by omega
  go_enter Tryz.func37, Tryz.ntmps37
  go_wp2_with fail
  refine (digitR_is hdg _).mono ?_
  rintro e w1 ⟨rfl, rfl⟩
  go_wp2_with fail
  refine (smallR_is hsm _).mono ?_
  rintro e w1 ⟨rfl, rfl⟩
  go_wp2_with fail
  (with_reducible refine (namedR_is s hs i (Nat.le_of_lt hi) hJ _).mono ?_)
  rintro e w1 ⟨rfl, rfl⟩
  go_wp2_with fail
  refine (capitalR_is hcp _).mono ?_
  rintro e w1 ⟨rfl, rfl⟩
  go_wp2_with fail
  (with_reducible refine (wordR_is _ hw _).mono ?_)
  rintro e w1 ⟨rfl, f1⟩
  obtain ⟨c0, c1, c2, c3, g0, g1, g2, g3⟩ := ((Blk.new' (b := w.heap.size) rfl #[.int .i64 0, .int .i64 0, .string ⟨#[]⟩, .int .i64 0] 41).keep f1 (fun e => e)).four
  go_wp2
  refine bodyPost_ret (v := .tuple #[tokV 5 0 (s.extract i J) i, .int .i64 0]) (by simp [results, Tryz.results37, go_sem, tokV, c0, c1, c2, c3]) rfl ⟨rfl, ?_⟩
  first | exact (Old.refl w).alloc _ | exact (((Old.refl w).alloc _).trans f1).set4 (Nat.le_refl _) _ _ _ _

set_option maxRecDepth 100000 in
set_option maxHeartbeats 2000000 in
theorem read_cap_long (s : ByteArray) (hs : s.size ≤ 140737488355328) (i : Nat) (hi : i < s.size) (b126 : ((s[i].toNat : Int) == 126) = false) (hdg : Hid (Lx.digit s[i] = false)) (b39 : ((s[i].toNat : Int) == 39) = false) (hsm : Hid (Lx.small s[i] = false)) (hcp : Hid (Lx.capital s[i] = true)) (J : Nat) (hJ : Hid (i + Lx.nameLen (rest s i) = J)) (hiJ : i ≤ J) (hJs : J ≤ s.size) (hl : 24 < J - i) (w : World) :
    Calls Tryz.prog 37 #[.string s, .int .i64 i] w fun e w' => e = .returned (.tuple #[tokV 0 0 ⟨#[]⟩ 0, .int .i64 2]) ∧ Old w w' := by
  have hlt : (i : Int) < (s.size : Int) := by omega
  have hwJ : wrap64 ((J : Int) - (i : Int)) = (J : Int) - (i : Int) := IntWalk.wrap64_in _ (by omega)
  have hdl : decide ((24 : Int) < (J : Int) - (i : Int)) = true := by simp only [decide_eq_true_eq]; omega
  have hpl : (24 : Int) < (J : Int) - (i : Int) := by omega
  have hx1 : (i : Int) ≤ (J : Int) := by omega
  have hx2 : (J : Int) ≤ (s.size : Int) := by omega
  go_enter Tryz.func37, Tryz.ntmps37
  go_wp2_with fail
  refine (digitR_is hdg _).mono ?_
  rintro e w1 ⟨rfl, rfl⟩
  go_wp2_with fail
  refine (smallR_is hsm _).mono ?_
  rintro e w1 ⟨rfl, rfl⟩
  go_wp2_with fail
  refine (capitalR_is hcp _).mono ?_
  rintro e w1 ⟨rfl, rfl⟩
  go_wp2_with fail
  (with_reducible refine (namedR_is s hs i (Nat.le_of_lt hi) hJ _).mono ?_)
  rintro e w1 ⟨rfl, rfl⟩
  obtain ⟨c0, c1, c2, c3, g0, g1, g2, g3⟩ := (Blk.new' (b := w.heap.size) rfl #[.int .i64 0, .int .i64 0, .string ⟨#[]⟩, .int .i64 0] 41).four
  go_wp2
  refine bodyPost_ret (v := .tuple #[tokV 0 0 ⟨#[]⟩ 0, .int .i64 2]) (by simp [results, Tryz.results37, go_sem, tokV, c0, c1, c2, c3]) rfl ⟨rfl, ?_⟩
  first | exact (Old.refl w).alloc _ | exact ((Old.refl w).alloc _).set4 (Nat.le_refl _) _ _ _ _

set_option maxRecDepth 100000 in
set_option maxHeartbeats 2000000 in
theorem read_cap_con (s : ByteArray) (hs : s.size ≤ 140737488355328) (i : Nat) (hi : i < s.size) (b126 : ((s[i].toNat : Int) == 126) = false) (hdg : Hid (Lx.digit s[i] = false)) (b39 : ((s[i].toNat : Int) == 39) = false) (hsm : Hid (Lx.small s[i] = false)) (hcp : Hid (Lx.capital s[i] = true)) (J : Nat) (hJ : Hid (i + Lx.nameLen (rest s i) = J)) (hiJ : i ≤ J) (hJs : J ≤ s.size) (hl : J - i ≤ 24) (w : World) :
    Calls Tryz.prog 37 #[.string s, .int .i64 i] w fun e w' => e = .returned (.tuple #[tokV 3 0 (s.extract i J) i, .int .i64 0]) ∧ Old w w' := by
  have hlt : (i : Int) < (s.size : Int) := by omega
  have hwJ : wrap64 ((J : Int) - (i : Int)) = (J : Int) - (i : Int) := IntWalk.wrap64_in _ (by omega)
  have hdl : decide ((24 : Int) < (J : Int) - (i : Int)) = false := by simp only [decide_eq_false_iff_not]; omega
  have hpl : (J : Int) - (i : Int) ≤ 24 := by omega
  have hx1 : (i : Int) ≤ (J : Int) := by omega
  have hx2 : (J : Int) ≤ (s.size : Int) := by omega
  go_enter Tryz.func37, Tryz.ntmps37
  go_wp2_with fail
  refine (digitR_is hdg _).mono ?_
  rintro e w1 ⟨rfl, rfl⟩
  go_wp2_with fail
  refine (smallR_is hsm _).mono ?_
  rintro e w1 ⟨rfl, rfl⟩
  go_wp2_with fail
  refine (capitalR_is hcp _).mono ?_
  rintro e w1 ⟨rfl, rfl⟩
  go_wp2_with fail
  (with_reducible refine (namedR_is s hs i (Nat.le_of_lt hi) hJ _).mono ?_)
  rintro e w1 ⟨rfl, rfl⟩
  go_wp2_with fail
  refine (capitalR_is hcp _).mono ?_
  rintro e w1 ⟨rfl, rfl⟩
  obtain ⟨c0, c1, c2, c3, g0, g1, g2, g3⟩ := (Blk.new' (b := w.heap.size) rfl #[.int .i64 0, .int .i64 0, .string ⟨#[]⟩, .int .i64 0] 41).four
  go_wp2
  refine bodyPost_ret (v := .tuple #[tokV 3 0 (s.extract i J) i, .int .i64 0]) (by simp [results, Tryz.results37, go_sem, tokV, c0, c1, c2, c3]) rfl ⟨rfl, ?_⟩
  first | exact (Old.refl w).alloc _ | exact ((Old.refl w).alloc _).set4 (Nat.le_refl _) _ _ _ _

end Go.Proofs.YtdchnjijdkgfhaaGreatDoor
