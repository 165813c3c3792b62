/- The reference's reader: integers. -/
import Derived.Test.YtdchnjijdkgfhaaGreatDoorRefSigns
namespace Go.Proofs.YtdchnjijdkgfhaaGreatDoor
open Go.RowKit

theorem refNumber_is (s : ByteArray) {o : Option Int} (ho : Hid (Lx.number s.data.toList = o)) (w : World) :
    Calls Tryz.prog 39 #[.string s] w fun e w' => e = .returned (numV o) ∧ w' = w := by
  have h := refNumber_any s w
  rw [ho.out] at h
  exact h

set_option maxRecDepth 100000 in
set_option maxHeartbeats 2000000 in
theorem read_num_neg_in_none (s : ByteArray) (hs : s.size ≤ 140737488355328) (i : Nat) (hi : i < s.size) (b126 : ((s[i].toNat : Int) == 126) = true) (J : Nat) (hJ : Hid (i + 1 + Lx.span Lx.digit (rest s (i + 1)) = J)) (hiJ : i + 1 ≤ J) (hJs : J ≤ s.size) (hend : J < s.size) (ho : Hid (Lx.number (s.extract i J).data.toList = none)) (w : World) :
    Calls Tryz.prog 37 #[.string s, .int .i64 i] w fun e w' => e = .returned (.tuple #[tokV 0 0 ⟨#[]⟩ 0, .int .i64 13]) ∧ Old w w' := by
  have hlt : (i : Int) < (s.size : Int) := by omega
  have hx1 : (i : Int) ≤ (J : Int) := by omega
  have hx2 : (J : Int) ≤ (s.size : Int) := by omega
  have hdJ : decide ((J : Int) < (s.size : Int)) = true := by simp only [decide_eq_true_eq]; omega
  have hdJ2 : decide (J < s.size) = true := by simp only [decide_eq_true_eq]; omega
  have hw1 : wrap64 ((i : Int) + 1) = ((i + 1 : Nat) : Int) := by rw [IntWalk.wrap64_in _ (by omega)]; omega
  have HW1 := Lib.hid hw1
  have HS := Lib.hid hs
  have HI := Lib.hid hi
  have HJ2 := Lib.hid hiJ
  have HJS := Lib.hid hJs
  go_enter Tryz.func37, Tryz.ntmps37
  go_wp2_with fail
  go_loopg [7] (s.size - (i + 1)) (fun g x wr => ∃ j : Nat, g = s.size - j ∧ j ≤ s.size ∧ x = .int .i64 j ∧ j + Lx.span Lx.digit (rest s j) = J ∧ wr = w.alloc (.cells #[.int .i64 0, .int .i64 0, .string ⟨#[]⟩, .int .i64 0] 41 (0, 0)))
  case atStart => exact ⟨i + 1, rfl, by have := HJ2.out; have := HJS.out; omega, by first | rfl | rw [HW1.out], hJ.out, rfl⟩
  case round =>
    obtain ⟨j, hgk, hj, rfl, hjE, rfl⟩ := hrel
    have HG := Lib.hid hgk
    have HJ := Lib.hid hjE
    clear hgk hjE
    by_cases hlt2 : j < s.size
    · have hd : decide ((j : Int) < (s.size : Int)) = true := by simp only [decide_eq_true_eq]; omega
      have hwj : Hid (wrap64 ((j : Int) + 1) = ((j + 1 : Nat) : Int)) := Lib.hid (by rw [IntWalk.wrap64_in _ (by have := HS.out; omega)]; omega)
      cases hp : Lx.digit s[j]
      · have HP := Lib.hid hp
        have hz := span_stop hlt2 hp
        have hjj : J = j := by have := HJ.out; omega
        subst hjj
        clear hp hz
        go_wp2_with fail
        refine (digitR_is HP _).mono ?_
        rintro e w1 ⟨rfl, rfl⟩
        go_wp2_with fail
        (with_reducible refine (refNumber_is _ ho _).mono ?_)
        unfold numV
        rintro e w1 ⟨rfl, rfl⟩
        obtain ⟨c0, c1, c2, c3, g0, g1, g2, g3⟩ := (Blk.new' (w := w) (b := w.heap.size) rfl #[.int .i64 0, .int .i64 0, .string ⟨#[]⟩, .int .i64 0] 41).four
        go_wp2
        refine bodyPost_ret (v := .tuple #[tokV 0 0 ⟨#[]⟩ 0, .int .i64 13]) (by simp [results, Tryz.results37, go_sem, tokV, c0, c1, c2, c3]) rfl ⟨rfl, ?_⟩
        first | exact (Old.refl w).alloc _ | exact ((Old.refl w).alloc _).set4 (Nat.le_refl _) _ _ _ _
      · have HP := Lib.hid hp
        have hz := span_step hlt2 hp
        have HZ := Lib.hid hz
        clear hp hz
        go_wp2_with fail
        refine (digitR_is HP _).mono ?_
        rintro e w1 ⟨rfl, rfl⟩
        go_wp2
        go_roundg (s.size - (j + 1))
        case measure => have := HG.out; omega
        case rel => exact ⟨j + 1, rfl, hlt2, by first | rfl | rw [hwj.out], by have := HJ.out; have := HZ.out; omega, rfl⟩
    · have hd : decide ((j : Int) < (s.size : Int)) = false := by simp only [decide_eq_false_iff_not]; omega
      have hz := span_end (P := Lx.digit) (t := s) (q := j) (by omega)
      have hjj : J = j := by have := HJ.out; omega
      subst hjj
      clear hz
      exfalso
      omega

set_option maxRecDepth 100000 in
set_option maxHeartbeats 2000000 in
theorem read_num_neg_in_part (s : ByteArray) (hs : s.size ≤ 140737488355328) (i : Nat) (hi : i < s.size) (b126 : ((s[i].toNat : Int) == 126) = true) (J : Nat) (hJ : Hid (i + 1 + Lx.span Lx.digit (rest s (i + 1)) = J)) (hiJ : i + 1 ≤ J) (hJs : J ≤ s.size) (hend : J < s.size) (n : Int) (ho : Hid (Lx.number (s.extract i J).data.toList = some n)) (hpt : Hid (Lx.part (s[J]'hend) = true)) (w : World) :
    Calls Tryz.prog 37 #[.string s, .int .i64 i] w fun e w' => e = .returned (.tuple #[tokV 0 0 ⟨#[]⟩ 0, .int .i64 13]) ∧ Old w w' := by
  have hlt : (i : Int) < (s.size : Int) := by omega
  have hx1 : (i : Int) ≤ (J : Int) := by omega
  have hx2 : (J : Int) ≤ (s.size : Int) := by omega
  have hdJ : decide ((J : Int) < (s.size : Int)) = true := by simp only [decide_eq_true_eq]; omega
  have hdJ2 : decide (J < s.size) = true := by simp only [decide_eq_true_eq]; omega
  have hw1 : wrap64 ((i : Int) + 1) = ((i + 1 : Nat) : Int) := by rw [IntWalk.wrap64_in _ (by omega)]; omega
  have HW1 := Lib.hid hw1
  have HS := Lib.hid hs
  have HI := Lib.hid hi
  have HJ2 := Lib.hid hiJ
  have HJS := Lib.hid hJs
  go_enter Tryz.func37, Tryz.ntmps37
  go_wp2_with fail
  go_loopg [7] (s.size - (i + 1)) (fun g x wr => ∃ j : Nat, g = s.size - j ∧ j ≤ s.size ∧ x = .int .i64 j ∧ j + Lx.span Lx.digit (rest s j) = J ∧ wr = w.alloc (.cells #[.int .i64 0, .int .i64 0, .string ⟨#[]⟩, .int .i64 0] 41 (0, 0)))
  case atStart => exact ⟨i + 1, rfl, by have := HJ2.out; have := HJS.out; omega, by first | rfl | rw [HW1.out], hJ.out, rfl⟩
  case round =>
    obtain ⟨j, hgk, hj, rfl, hjE, rfl⟩ := hrel
    have HG := Lib.hid hgk
    have HJ := Lib.hid hjE
    clear hgk hjE
    by_cases hlt2 : j < s.size
    · have hd : decide ((j : Int) < (s.size : Int)) = true := by simp only [decide_eq_true_eq]; omega
      have hwj : Hid (wrap64 ((j : Int) + 1) = ((j + 1 : Nat) : Int)) := Lib.hid (by rw [IntWalk.wrap64_in _ (by have := HS.out; omega)]; omega)
      cases hp : Lx.digit s[j]
      · have HP := Lib.hid hp
        have hz := span_stop hlt2 hp
        have hjj : J = j := by have := HJ.out; omega
        subst hjj
        clear hp hz
        go_wp2_with fail
        refine (digitR_is HP _).mono ?_
        rintro e w1 ⟨rfl, rfl⟩
        go_wp2_with fail
        (with_reducible refine (refNumber_is _ ho _).mono ?_)
        unfold numV
        rintro e w1 ⟨rfl, rfl⟩
        go_wp2_with fail
        refine (innerR_is hpt _).mono ?_
        rintro e w1 ⟨rfl, rfl⟩
        obtain ⟨c0, c1, c2, c3, g0, g1, g2, g3⟩ := (Blk.new' (w := w) (b := w.heap.size) rfl #[.int .i64 0, .int .i64 0, .string ⟨#[]⟩, .int .i64 0] 41).four
        go_wp2
        refine bodyPost_ret (v := .tuple #[tokV 0 0 ⟨#[]⟩ 0, .int .i64 13]) (by simp [results, Tryz.results37, go_sem, tokV, c0, c1, c2, c3]) rfl ⟨rfl, ?_⟩
        first | exact (Old.refl w).alloc _ | exact ((Old.refl w).alloc _).set4 (Nat.le_refl _) _ _ _ _
      · have HP := Lib.hid hp
        have hz := span_step hlt2 hp
        have HZ := Lib.hid hz
        clear hp hz
        go_wp2_with fail
        refine (digitR_is HP _).mono ?_
        rintro e w1 ⟨rfl, rfl⟩
        go_wp2
        go_roundg (s.size - (j + 1))
        case measure => have := HG.out; omega
        case rel => exact ⟨j + 1, rfl, hlt2, by first | rfl | rw [hwj.out], by have := HJ.out; have := HZ.out; omega, rfl⟩
    · have hd : decide ((j : Int) < (s.size : Int)) = false := by simp only [decide_eq_false_iff_not]; omega
      have hz := span_end (P := Lx.digit) (t := s) (q := j) (by omega)
      have hjj : J = j := by have := HJ.out; omega
      subst hjj
      clear hz
      exfalso
      omega

set_option maxRecDepth 100000 in
set_option maxHeartbeats 2000000 in
theorem read_num_neg_in_quote (s : ByteArray) (hs : s.size ≤ 140737488355328) (i : Nat) (hi : i < s.size) (b126 : ((s[i].toNat : Int) == 126) = true) (J : Nat) (hJ : Hid (i + 1 + Lx.span Lx.digit (rest s (i + 1)) = J)) (hiJ : i + 1 ≤ J) (hJs : J ≤ s.size) (hend : J < s.size) (n : Int) (ho : Hid (Lx.number (s.extract i J).data.toList = some n)) (hpt : Hid (Lx.part (s[J]'hend) = false)) (hqt : (((s[J]'hend).toNat : Int) == 39) = true) (w : World) :
    Calls Tryz.prog 37 #[.string s, .int .i64 i] w fun e w' => e = .returned (.tuple #[tokV 0 0 ⟨#[]⟩ 0, .int .i64 13]) ∧ Old w w' := by
  have hlt : (i : Int) < (s.size : Int) := by omega
  have hx1 : (i : Int) ≤ (J : Int) := by omega
  have hx2 : (J : Int) ≤ (s.size : Int) := by omega
  have hdJ : decide ((J : Int) < (s.size : Int)) = true := by simp only [decide_eq_true_eq]; omega
  have hdJ2 : decide (J < s.size) = true := by simp only [decide_eq_true_eq]; omega
  have hw1 : wrap64 ((i : Int) + 1) = ((i + 1 : Nat) : Int) := by rw [IntWalk.wrap64_in _ (by omega)]; omega
  have HW1 := Lib.hid hw1
  have HS := Lib.hid hs
  have HI := Lib.hid hi
  have HJ2 := Lib.hid hiJ
  have HJS := Lib.hid hJs
  go_enter Tryz.func37, Tryz.ntmps37
  go_wp2_with fail
  go_loopg [7] (s.size - (i + 1)) (fun g x wr => ∃ j : Nat, g = s.size - j ∧ j ≤ s.size ∧ x = .int .i64 j ∧ j + Lx.span Lx.digit (rest s j) = J ∧ wr = w.alloc (.cells #[.int .i64 0, .int .i64 0, .string ⟨#[]⟩, .int .i64 0] 41 (0, 0)))
  case atStart => exact ⟨i + 1, rfl, by have := HJ2.out; have := HJS.out; omega, by first | rfl | rw [HW1.out], hJ.out, rfl⟩
  case round =>
    obtain ⟨j, hgk, hj, rfl, hjE, rfl⟩ := hrel
    have HG := Lib.hid hgk
    have HJ := Lib.hid hjE
    clear hgk hjE
    by_cases hlt2 : j < s.size
    · have hd : decide ((j : Int) < (s.size : Int)) = true := by simp only [decide_eq_true_eq]; omega
      have hwj : Hid (wrap64 ((j : Int) + 1) = ((j + 1 : Nat) : Int)) := Lib.hid (by rw [IntWalk.wrap64_in _ (by have := HS.out; omega)]; omega)
      cases hp : Lx.digit s[j]
      · have HP := Lib.hid hp
        have hz := span_stop hlt2 hp
        have hjj : J = j := by have := HJ.out; omega
        subst hjj
        clear hp hz
        go_wp2_with fail
        refine (digitR_is HP _).mono ?_
        rintro e w1 ⟨rfl, rfl⟩
        go_wp2_with fail
        (with_reducible refine (refNumber_is _ ho _).mono ?_)
        unfold numV
        rintro e w1 ⟨rfl, rfl⟩
        go_wp2_with fail
        refine (innerR_is hpt _).mono ?_
        rintro e w1 ⟨rfl, rfl⟩
        obtain ⟨c0, c1, c2, c3, g0, g1, g2, g3⟩ := (Blk.new' (w := w) (b := w.heap.size) rfl #[.int .i64 0, .int .i64 0, .string ⟨#[]⟩, .int .i64 0] 41).four
        go_wp2
        refine bodyPost_ret (v := .tuple #[tokV 0 0 ⟨#[]⟩ 0, .int .i64 13]) (by simp [results, Tryz.results37, go_sem, tokV, c0, c1, c2, c3]) rfl ⟨rfl, ?_⟩
        first | exact (Old.refl w).alloc _ | exact ((Old.refl w).alloc _).set4 (Nat.le_refl _) _ _ _ _
      · have HP := Lib.hid hp
        have hz := span_step hlt2 hp
        have HZ := Lib.hid hz
        clear hp hz
        go_wp2_with fail
        refine (digitR_is HP _).mono ?_
        rintro e w1 ⟨rfl, rfl⟩
        go_wp2
        go_roundg (s.size - (j + 1))
        case measure => have := HG.out; omega
        case rel => exact ⟨j + 1, rfl, hlt2, by first | rfl | rw [hwj.out], by have := HJ.out; have := HZ.out; omega, rfl⟩
    · have hd : decide ((j : Int) < (s.size : Int)) = false := by simp only [decide_eq_false_iff_not]; omega
      have hz := span_end (P := Lx.digit) (t := s) (q := j) (by omega)
      have hjj : J = j := by have := HJ.out; omega
      subst hjj
      clear hz
      exfalso
      omega

set_option maxRecDepth 100000 in
set_option maxHeartbeats 2000000 in
theorem read_num_neg_in_ok (s : ByteArray) (hs : s.size ≤ 140737488355328) (i : Nat) (hi : i < s.size) (b126 : ((s[i].toNat : Int) == 126) = true) (J : Nat) (hJ : Hid (i + 1 + Lx.span Lx.digit (rest s (i + 1)) = J)) (hiJ : i + 1 ≤ J) (hJs : J ≤ s.size) (hend : J < s.size) (n : Int) (ho : Hid (Lx.number (s.extract i J).data.toList = some n)) (hpt : Hid (Lx.part (s[J]'hend) = false)) (hqt : (((s[J]'hend).toNat : Int) == 39) = false) (w : World) :
    Calls Tryz.prog 37 #[.string s, .int .i64 i] w fun e w' => e = .returned (.tuple #[tokV 1 n (s.extract i J) i, .int .i64 0]) ∧ Old w w' := by
  have hlt : (i : Int) < (s.size : Int) := by omega
  have hx1 : (i : Int) ≤ (J : Int) := by omega
  have hx2 : (J : Int) ≤ (s.size : Int) := by omega
  have hdJ : decide ((J : Int) < (s.size : Int)) = true := by simp only [decide_eq_true_eq]; omega
  have hdJ2 : decide (J < s.size) = true := by simp only [decide_eq_true_eq]; omega
  have hw1 : wrap64 ((i : Int) + 1) = ((i + 1 : Nat) : Int) := by rw [IntWalk.wrap64_in _ (by omega)]; omega
  have HW1 := Lib.hid hw1
  have HS := Lib.hid hs
  have HI := Lib.hid hi
  have HJ2 := Lib.hid hiJ
  have HJS := Lib.hid hJs
  go_enter Tryz.func37, Tryz.ntmps37
  go_wp2_with fail
  go_loopg [7] (s.size - (i + 1)) (fun g x wr => ∃ j : Nat, g = s.size - j ∧ j ≤ s.size ∧ x = .int .i64 j ∧ j + Lx.span Lx.digit (rest s j) = J ∧ wr = w.alloc (.cells #[.int .i64 0, .int .i64 0, .string ⟨#[]⟩, .int .i64 0] 41 (0, 0)))
  case atStart => exact ⟨i + 1, rfl, by have := HJ2.out; have := HJS.out; omega, by first | rfl | rw [HW1.out], hJ.out, rfl⟩
  case round =>
    obtain ⟨j, hgk, hj, rfl, hjE, rfl⟩ := hrel
    have HG := Lib.hid hgk
    have HJ := Lib.hid hjE
    clear hgk hjE
    by_cases hlt2 : j < s.size
    · have hd : decide ((j : Int) < (s.size : Int)) = true := by simp only [decide_eq_true_eq]; omega
      have hwj : Hid (wrap64 ((j : Int) + 1) = ((j + 1 : Nat) : Int)) := Lib.hid (by rw [IntWalk.wrap64_in _ (by have := HS.out; omega)]; omega)
      cases hp : Lx.digit s[j]
      · have HP := Lib.hid hp
        have hz := span_stop hlt2 hp
        have hjj : J = j := by have := HJ.out; omega
        subst hjj
        clear hp hz
        go_wp2_with fail
        refine (digitR_is HP _).mono ?_
        rintro e w1 ⟨rfl, rfl⟩
        go_wp2_with fail
        (with_reducible refine (refNumber_is _ ho _).mono ?_)
        unfold numV
        rintro e w1 ⟨rfl, rfl⟩
        go_wp2_with fail
        refine (innerR_is hpt _).mono ?_
        rintro e w1 ⟨rfl, rfl⟩
        obtain ⟨c0, c1, c2, c3, g0, g1, g2, g3⟩ := (Blk.new' (w := w) (b := w.heap.size) rfl #[.int .i64 0, .int .i64 0, .string ⟨#[]⟩, .int .i64 0] 41).four
        go_wp2
        refine bodyPost_ret (v := .tuple #[tokV 1 n (s.extract i J) i, .int .i64 0]) (by simp [results, Tryz.results37, go_sem, tokV, c0, c1, c2, c3]) rfl ⟨rfl, ?_⟩
        first | exact (Old.refl w).alloc _ | exact ((Old.refl w).alloc _).set4 (Nat.le_refl _) _ _ _ _
      · have HP := Lib.hid hp
        have hz := span_step hlt2 hp
        have HZ := Lib.hid hz
        clear hp hz
        go_wp2_with fail
        refine (digitR_is HP _).mono ?_
        rintro e w1 ⟨rfl, rfl⟩
        go_wp2
        go_roundg (s.size - (j + 1))
        case measure => have := HG.out; omega
        case rel => exact ⟨j + 1, rfl, hlt2, by first | rfl | rw [hwj.out], by have := HJ.out; have := HZ.out; omega, rfl⟩
    · have hd : decide ((j : Int) < (s.size : Int)) = false := by simp only [decide_eq_false_iff_not]; omega
      have hz := span_end (P := Lx.digit) (t := s) (q := j) (by omega)
      have hjj : J = j := by have := HJ.out; omega
      subst hjj
      clear hz
      exfalso
      omega

set_option maxRecDepth 100000 in
set_option maxHeartbeats 2000000 in
theorem read_num_neg_end_none (s : ByteArray) (hs : s.size ≤ 140737488355328) (i : Nat) (hi : i < s.size) (b126 : ((s[i].toNat : Int) == 126) = true) (J : Nat) (hJ : Hid (i + 1 + Lx.span Lx.digit (rest s (i + 1)) = J)) (hiJ : i + 1 ≤ J) (hJs : J ≤ s.size) (hend : J = s.size) (ho : Hid (Lx.number (s.extract i J).data.toList = none)) (w : World) :
    Calls Tryz.prog 37 #[.string s, .int .i64 i] w fun e w' => e = .returned (.tuple #[tokV 0 0 ⟨#[]⟩ 0, .int .i64 13]) ∧ Old w w' := by
  have hlt : (i : Int) < (s.size : Int) := by omega
  have hx1 : (i : Int) ≤ (J : Int) := by omega
  have hx2 : (J : Int) ≤ (s.size : Int) := by omega
  have hdJ : decide ((J : Int) < (s.size : Int)) = false := by simp only [decide_eq_false_iff_not]; omega
  have hdJ2 : decide (J < s.size) = false := by simp only [decide_eq_false_iff_not]; omega
  have hw1 : wrap64 ((i : Int) + 1) = ((i + 1 : Nat) : Int) := by rw [IntWalk.wrap64_in _ (by omega)]; omega
  have HW1 := Lib.hid hw1
  have HS := Lib.hid hs
  have HI := Lib.hid hi
  have HJ2 := Lib.hid hiJ
  have HJS := Lib.hid hJs
  have HEND := Lib.hid hend
  clear hend
  go_enter Tryz.func37, Tryz.ntmps37
  go_wp2_with fail
  go_loopg [7] (s.size - (i + 1)) (fun g x wr => ∃ j : Nat, g = s.size - j ∧ j ≤ s.size ∧ x = .int .i64 j ∧ j + Lx.span Lx.digit (rest s j) = J ∧ wr = w.alloc (.cells #[.int .i64 0, .int .i64 0, .string ⟨#[]⟩, .int .i64 0] 41 (0, 0)))
  case atStart => exact ⟨i + 1, rfl, by have := HJ2.out; have := HJS.out; omega, by first | rfl | rw [HW1.out], hJ.out, rfl⟩
  case round =>
    obtain ⟨j, hgk, hj, rfl, hjE, rfl⟩ := hrel
    have HG := Lib.hid hgk
    have HJ := Lib.hid hjE
    clear hgk hjE
    by_cases hlt2 : j < s.size
    · have hd : decide ((j : Int) < (s.size : Int)) = true := by simp only [decide_eq_true_eq]; omega
      have hwj : Hid (wrap64 ((j : Int) + 1) = ((j + 1 : Nat) : Int)) := Lib.hid (by rw [IntWalk.wrap64_in _ (by have := HS.out; omega)]; omega)
      cases hp : Lx.digit s[j]
      · have HP := Lib.hid hp
        have hz := span_stop hlt2 hp
        have hjj : J = j := by have := HJ.out; omega
        subst hjj
        clear hp hz
        exfalso
        have := HEND.out
        omega
      · have HP := Lib.hid hp
        have hz := span_step hlt2 hp
        have HZ := Lib.hid hz
        clear hp hz
        go_wp2_with fail
        refine (digitR_is HP _).mono ?_
        rintro e w1 ⟨rfl, rfl⟩
        go_wp2
        go_roundg (s.size - (j + 1))
        case measure => have := HG.out; omega
        case rel => exact ⟨j + 1, rfl, hlt2, by first | rfl | rw [hwj.out], by have := HJ.out; have := HZ.out; omega, rfl⟩
    · have hd : decide ((j : Int) < (s.size : Int)) = false := by simp only [decide_eq_false_iff_not]; omega
      have hz := span_end (P := Lx.digit) (t := s) (q := j) (by omega)
      have hjj : J = j := by have := HJ.out; omega
      subst hjj
      clear hz
      go_wp2_with fail
      (with_reducible refine (refNumber_is _ ho _).mono ?_)
      unfold numV
      rintro e w1 ⟨rfl, rfl⟩
      obtain ⟨c0, c1, c2, c3, g0, g1, g2, g3⟩ := (Blk.new' (w := w) (b := w.heap.size) rfl #[.int .i64 0, .int .i64 0, .string ⟨#[]⟩, .int .i64 0] 41).four
      go_wp2
      refine bodyPost_ret (v := .tuple #[tokV 0 0 ⟨#[]⟩ 0, .int .i64 13]) (by simp [results, Tryz.results37, go_sem, tokV, c0, c1, c2, c3]) rfl ⟨rfl, ?_⟩
      first | exact (Old.refl w).alloc _ | exact ((Old.refl w).alloc _).set4 (Nat.le_refl _) _ _ _ _

set_option maxRecDepth 100000 in
set_option maxHeartbeats 2000000 in
theorem read_num_neg_end_ok (s : ByteArray) (hs : s.size ≤ 140737488355328) (i : Nat) (hi : i < s.size) (b126 : ((s[i].toNat : Int) == 126) = true) (J : Nat) (hJ : Hid (i + 1 + Lx.span Lx.digit (rest s (i + 1)) = J)) (hiJ : i + 1 ≤ J) (hJs : J ≤ s.size) (hend : J = s.size) (n : Int) (ho : Hid (Lx.number (s.extract i J).data.toList = some n)) (w : World) :
    Calls Tryz.prog 37 #[.string s, .int .i64 i] w fun e w' => e = .returned (.tuple #[tokV 1 n (s.extract i J) i, .int .i64 0]) ∧ Old w w' := by
  have hlt : (i : Int) < (s.size : Int) := by omega
  have hx1 : (i : Int) ≤ (J : Int) := by omega
  have hx2 : (J : Int) ≤ (s.size : Int) := by omega
  have hdJ : decide ((J : Int) < (s.size : Int)) = false := by simp only [decide_eq_false_iff_not]; omega
  have hdJ2 : decide (J < s.size) = false := by simp only [decide_eq_false_iff_not]; omega
  have hw1 : wrap64 ((i : Int) + 1) = ((i + 1 : Nat) : Int) := by rw [IntWalk.wrap64_in _ (by omega)]; omega
  have HW1 := Lib.hid hw1
  have HS := Lib.hid hs
  have HI := Lib.hid hi
  have HJ2 := Lib.hid hiJ
  have HJS := Lib.hid hJs
  have HEND := Lib.hid hend
  clear hend
  go_enter Tryz.func37, Tryz.ntmps37
  go_wp2_with fail
  go_loopg [7] (s.size - (i + 1)) (fun g x wr => ∃ j : Nat, g = s.size - j ∧ j ≤ s.size ∧ x = .int .i64 j ∧ j + Lx.span Lx.digit (rest s j) = J ∧ wr = w.alloc (.cells #[.int .i64 0, .int .i64 0, .string ⟨#[]⟩, .int .i64 0] 41 (0, 0)))
  case atStart => exact ⟨i + 1, rfl, by have := HJ2.out; have := HJS.out; omega, by first | rfl | rw [HW1.out], hJ.out, rfl⟩
  case round =>
    obtain ⟨j, hgk, hj, rfl, hjE, rfl⟩ := hrel
    have HG := Lib.hid hgk
    have HJ := Lib.hid hjE
    clear hgk hjE
    by_cases hlt2 : j < s.size
    · have hd : decide ((j : Int) < (s.size : Int)) = true := by simp only [decide_eq_true_eq]; omega
      have hwj : Hid (wrap64 ((j : Int) + 1) = ((j + 1 : Nat) : Int)) := Lib.hid (by rw [IntWalk.wrap64_in _ (by have := HS.out; omega)]; omega)
      cases hp : Lx.digit s[j]
      · have HP := Lib.hid hp
        have hz := span_stop hlt2 hp
        have hjj : J = j := by have := HJ.out; omega
        subst hjj
        clear hp hz
        exfalso
        have := HEND.out
        omega
      · have HP := Lib.hid hp
        have hz := span_step hlt2 hp
        have HZ := Lib.hid hz
        clear hp hz
        go_wp2_with fail
        refine (digitR_is HP _).mono ?_
        rintro e w1 ⟨rfl, rfl⟩
        go_wp2
        go_roundg (s.size - (j + 1))
        case measure => have := HG.out; omega
        case rel => exact ⟨j + 1, rfl, hlt2, by first | rfl | rw [hwj.out], by have := HJ.out; have := HZ.out; omega, rfl⟩
    · have hd : decide ((j : Int) < (s.size : Int)) = false := by simp only [decide_eq_false_iff_not]; omega
      have hz := span_end (P := Lx.digit) (t := s) (q := j) (by omega)
      have hjj : J = j := by have := HJ.out; omega
      subst hjj
      clear hz
      go_wp2_with fail
      (with_reducible refine (refNumber_is _ ho _).mono ?_)
      unfold numV
      rintro e w1 ⟨rfl, rfl⟩
      obtain ⟨c0, c1, c2, c3, g0, g1, g2, g3⟩ := (Blk.new' (w := w) (b := w.heap.size) rfl #[.int .i64 0, .int .i64 0, .string ⟨#[]⟩, .int .i64 0] 41).four
      go_wp2
      refine bodyPost_ret (v := .tuple #[tokV 1 n (s.extract i J) i, .int .i64 0]) (by simp [results, Tryz.results37, go_sem, tokV, c0, c1, c2, c3]) rfl ⟨rfl, ?_⟩
      first | exact (Old.refl w).alloc _ | exact ((Old.refl w).alloc _).set4 (Nat.le_refl _) _ _ _ _

set_option maxRecDepth 100000 in
set_option maxHeartbeats 2000000 in
theorem read_num_pos_in_none (s : ByteArray) (hs : s.size ≤ 140737488355328) (i : Nat) (hi : i < s.size) (b126 : ((s[i].toNat : Int) == 126) = false) (hdg : Hid (Lx.digit s[i] = true)) (J : Nat) (hJ : Hid (i + Lx.span Lx.digit (rest s (i)) = J)) (hiJ : i ≤ J) (hJs : J ≤ s.size) (hend : J < s.size) (ho : Hid (Lx.number (s.extract i J).data.toList = none)) (w : World) :
    Calls Tryz.prog 37 #[.string s, .int .i64 i] w fun e w' => e = .returned (.tuple #[tokV 0 0 ⟨#[]⟩ 0, .int .i64 13]) ∧ Old w w' := by
  have hlt : (i : Int) < (s.size : Int) := by omega
  have hx1 : (i : Int) ≤ (J : Int) := by omega
  have hx2 : (J : Int) ≤ (s.size : Int) := by omega
  have hdJ : decide ((J : Int) < (s.size : Int)) = true := by simp only [decide_eq_true_eq]; omega
  have hdJ2 : decide (J < s.size) = true := by simp only [decide_eq_true_eq]; omega
  have HS := Lib.hid hs
  have HI := Lib.hid hi
  have HJ2 := Lib.hid hiJ
  have HJS := Lib.hid hJs
  go_enter Tryz.func37, Tryz.ntmps37
  go_wp2_with fail
  refine (digitR_is hdg _).mono ?_
  rintro e w1 ⟨rfl, rfl⟩
  go_wp2_with fail
  go_loopg [7] (s.size - (i)) (fun g x wr => ∃ j : Nat, g = s.size - j ∧ j ≤ s.size ∧ x = .int .i64 j ∧ j + Lx.span Lx.digit (rest s j) = J ∧ wr = w.alloc (.cells #[.int .i64 0, .int .i64 0, .string ⟨#[]⟩, .int .i64 0] 41 (0, 0)))
  case atStart => exact ⟨i, rfl, by have := HJ2.out; have := HJS.out; omega, by first | rfl | rw [HW1.out], hJ.out, rfl⟩
  case round =>
    obtain ⟨j, hgk, hj, rfl, hjE, rfl⟩ := hrel
    have HG := Lib.hid hgk
    have HJ := Lib.hid hjE
    clear hgk hjE
    by_cases hlt2 : j < s.size
    · have hd : decide ((j : Int) < (s.size : Int)) = true := by simp only [decide_eq_true_eq]; omega
      have hwj : Hid (wrap64 ((j : Int) + 1) = ((j + 1 : Nat) : Int)) := Lib.hid (by rw [IntWalk.wrap64_in _ (by have := HS.out; omega)]; omega)
      cases hp : Lx.digit s[j]
      · have HP := Lib.hid hp
        have hz := span_stop hlt2 hp
        have hjj : J = j := by have := HJ.out; omega
        subst hjj
        clear hp hz
        go_wp2_with fail
        refine (digitR_is HP _).mono ?_
        rintro e w1 ⟨rfl, rfl⟩
        go_wp2_with fail
        (with_reducible refine (refNumber_is _ ho _).mono ?_)
        unfold numV
        rintro e w1 ⟨rfl, rfl⟩
        obtain ⟨c0, c1, c2, c3, g0, g1, g2, g3⟩ := (Blk.new' (w := w) (b := w.heap.size) rfl #[.int .i64 0, .int .i64 0, .string ⟨#[]⟩, .int .i64 0] 41).four
        go_wp2
        refine bodyPost_ret (v := .tuple #[tokV 0 0 ⟨#[]⟩ 0, .int .i64 13]) (by simp [results, Tryz.results37, go_sem, tokV, c0, c1, c2, c3]) rfl ⟨rfl, ?_⟩
        first | exact (Old.refl w).alloc _ | exact ((Old.refl w).alloc _).set4 (Nat.le_refl _) _ _ _ _
      · have HP := Lib.hid hp
        have hz := span_step hlt2 hp
        have HZ := Lib.hid hz
        clear hp hz
        go_wp2_with fail
        refine (digitR_is HP _).mono ?_
        rintro e w1 ⟨rfl, rfl⟩
        go_wp2
        go_roundg (s.size - (j + 1))
        case measure => have := HG.out; omega
        case rel => exact ⟨j + 1, rfl, hlt2, by first | rfl | rw [hwj.out], by have := HJ.out; have := HZ.out; omega, rfl⟩
    · have hd : decide ((j : Int) < (s.size : Int)) = false := by simp only [decide_eq_false_iff_not]; omega
      have hz := span_end (P := Lx.digit) (t := s) (q := j) (by omega)
      have hjj : J = j := by have := HJ.out; omega
      subst hjj
      clear hz
      exfalso
      omega

set_option maxRecDepth 100000 in
set_option maxHeartbeats 2000000 in
theorem read_num_pos_in_part (s : ByteArray) (hs : s.size ≤ 140737488355328) (i : Nat) (hi : i < s.size) (b126 : ((s[i].toNat : Int) == 126) = false) (hdg : Hid (Lx.digit s[i] = true)) (J : Nat) (hJ : Hid (i + Lx.span Lx.digit (rest s (i)) = J)) (hiJ : i ≤ J) (hJs : J ≤ s.size) (hend : J < s.size) (n : Int) (ho : Hid (Lx.number (s.extract i J).data.toList = some n)) (hpt : Hid (Lx.part (s[J]'hend) = true)) (w : World) :
    Calls Tryz.prog 37 #[.string s, .int .i64 i] w fun e w' => e = .returned (.tuple #[tokV 0 0 ⟨#[]⟩ 0, .int .i64 13]) ∧ Old w w' := by
  have hlt : (i : Int) < (s.size : Int) := by omega
  have hx1 : (i : Int) ≤ (J : Int) := by omega
  have hx2 : (J : Int) ≤ (s.size : Int) := by omega
  have hdJ : decide ((J : Int) < (s.size : Int)) = true := by simp only [decide_eq_true_eq]; omega
  have hdJ2 : decide (J < s.size) = true := by simp only [decide_eq_true_eq]; omega
  have HS := Lib.hid hs
  have HI := Lib.hid hi
  have HJ2 := Lib.hid hiJ
  have HJS := Lib.hid hJs
  go_enter Tryz.func37, Tryz.ntmps37
  go_wp2_with fail
  refine (digitR_is hdg _).mono ?_
  rintro e w1 ⟨rfl, rfl⟩
  go_wp2_with fail
  go_loopg [7] (s.size - (i)) (fun g x wr => ∃ j : Nat, g = s.size - j ∧ j ≤ s.size ∧ x = .int .i64 j ∧ j + Lx.span Lx.digit (rest s j) = J ∧ wr = w.alloc (.cells #[.int .i64 0, .int .i64 0, .string ⟨#[]⟩, .int .i64 0] 41 (0, 0)))
  case atStart => exact ⟨i, rfl, by have := HJ2.out; have := HJS.out; omega, by first | rfl | rw [HW1.out], hJ.out, rfl⟩
  case round =>
    obtain ⟨j, hgk, hj, rfl, hjE, rfl⟩ := hrel
    have HG := Lib.hid hgk
    have HJ := Lib.hid hjE
    clear hgk hjE
    by_cases hlt2 : j < s.size
    · have hd : decide ((j : Int) < (s.size : Int)) = true := by simp only [decide_eq_true_eq]; omega
      have hwj : Hid (wrap64 ((j : Int) + 1) = ((j + 1 : Nat) : Int)) := Lib.hid (by rw [IntWalk.wrap64_in _ (by have := HS.out; omega)]; omega)
      cases hp : Lx.digit s[j]
      · have HP := Lib.hid hp
        have hz := span_stop hlt2 hp
        have hjj : J = j := by have := HJ.out; omega
        subst hjj
        clear hp hz
        go_wp2_with fail
        refine (digitR_is HP _).mono ?_
        rintro e w1 ⟨rfl, rfl⟩
        go_wp2_with fail
        (with_reducible refine (refNumber_is _ ho _).mono ?_)
        unfold numV
        rintro e w1 ⟨rfl, rfl⟩
        go_wp2_with fail
        refine (innerR_is hpt _).mono ?_
        rintro e w1 ⟨rfl, rfl⟩
        obtain ⟨c0, c1, c2, c3, g0, g1, g2, g3⟩ := (Blk.new' (w := w) (b := w.heap.size) rfl #[.int .i64 0, .int .i64 0, .string ⟨#[]⟩, .int .i64 0] 41).four
        go_wp2
        refine bodyPost_ret (v := .tuple #[tokV 0 0 ⟨#[]⟩ 0, .int .i64 13]) (by simp [results, Tryz.results37, go_sem, tokV, c0, c1, c2, c3]) rfl ⟨rfl, ?_⟩
        first | exact (Old.refl w).alloc _ | exact ((Old.refl w).alloc _).set4 (Nat.le_refl _) _ _ _ _
      · have HP := Lib.hid hp
        have hz := span_step hlt2 hp
        have HZ := Lib.hid hz
        clear hp hz
        go_wp2_with fail
        refine (digitR_is HP _).mono ?_
        rintro e w1 ⟨rfl, rfl⟩
        go_wp2
        go_roundg (s.size - (j + 1))
        case measure => have := HG.out; omega
        case rel => exact ⟨j + 1, rfl, hlt2, by first | rfl | rw [hwj.out], by have := HJ.out; have := HZ.out; omega, rfl⟩
    · have hd : decide ((j : Int) < (s.size : Int)) = false := by simp only [decide_eq_false_iff_not]; omega
      have hz := span_end (P := Lx.digit) (t := s) (q := j) (by omega)
      have hjj : J = j := by have := HJ.out; omega
      subst hjj
      clear hz
      exfalso
      omega

set_option maxRecDepth 100000 in
set_option maxHeartbeats 2000000 in
theorem read_num_pos_in_quote (s : ByteArray) (hs : s.size ≤ 140737488355328) (i : Nat) (hi : i < s.size) (b126 : ((s[i].toNat : Int) == 126) = false) (hdg : Hid (Lx.digit s[i] = true)) (J : Nat) (hJ : Hid (i + Lx.span Lx.digit (rest s (i)) = J)) (hiJ : i ≤ J) (hJs : J ≤ s.size) (hend : J < s.size) (n : Int) (ho : Hid (Lx.number (s.extract i J).data.toList = some n)) (hpt : Hid (Lx.part (s[J]'hend) = false)) (hqt : (((s[J]'hend).toNat : Int) == 39) = true) (w : World) :
    Calls Tryz.prog 37 #[.string s, .int .i64 i] w fun e w' => e = .returned (.tuple #[tokV 0 0 ⟨#[]⟩ 0, .int .i64 13]) ∧ Old w w' := by
  have hlt : (i : Int) < (s.size : Int) := by omega
  have hx1 : (i : Int) ≤ (J : Int) := by omega
  have hx2 : (J : Int) ≤ (s.size : Int) := by omega
  have hdJ : decide ((J : Int) < (s.size : Int)) = true := by simp only [decide_eq_true_eq]; omega
  have hdJ2 : decide (J < s.size) = true := by simp only [decide_eq_true_eq]; omega
  have HS := Lib.hid hs
  have HI := Lib.hid hi
  have HJ2 := Lib.hid hiJ
  have HJS := Lib.hid hJs
  go_enter Tryz.func37, Tryz.ntmps37
  go_wp2_with fail
  refine (digitR_is hdg _).mono ?_
  rintro e w1 ⟨rfl, rfl⟩
  go_wp2_with fail
  go_loopg [7] (s.size - (i)) (fun g x wr => ∃ j : Nat, g = s.size - j ∧ j ≤ s.size ∧ x = .int .i64 j ∧ j + Lx.span Lx.digit (rest s j) = J ∧ wr = w.alloc (.cells #[.int .i64 0, .int .i64 0, .string ⟨#[]⟩, .int .i64 0] 41 (0, 0)))
  case atStart => exact ⟨i, rfl, by have := HJ2.out; have := HJS.out; omega, by first | rfl | rw [HW1.out], hJ.out, rfl⟩
  case round =>
    obtain ⟨j, hgk, hj, rfl, hjE, rfl⟩ := hrel
    have HG := Lib.hid hgk
    have HJ := Lib.hid hjE
    clear hgk hjE
    by_cases hlt2 : j < s.size
    · have hd : decide ((j : Int) < (s.size : Int)) = true := by simp only [decide_eq_true_eq]; omega
      have hwj : Hid (wrap64 ((j : Int) + 1) = ((j + 1 : Nat) : Int)) := Lib.hid (by rw [IntWalk.wrap64_in _ (by have := HS.out; omega)]; omega)
      cases hp : Lx.digit s[j]
      · have HP := Lib.hid hp
        have hz := span_stop hlt2 hp
        have hjj : J = j := by have := HJ.out; omega
        subst hjj
        clear hp hz
        go_wp2_with fail
        refine (digitR_is HP _).mono ?_
        rintro e w1 ⟨rfl, rfl⟩
        go_wp2_with fail
        (with_reducible refine (refNumber_is _ ho _).mono ?_)
        unfold numV
        rintro e w1 ⟨rfl, rfl⟩
        go_wp2_with fail
        refine (innerR_is hpt _).mono ?_
        rintro e w1 ⟨rfl, rfl⟩
        obtain ⟨c0, c1, c2, c3, g0, g1, g2, g3⟩ := (Blk.new' (w := w) (b := w.heap.size) rfl #[.int .i64 0, .int .i64 0, .string ⟨#[]⟩, .int .i64 0] 41).four
        go_wp2
        refine bodyPost_ret (v := .tuple #[tokV 0 0 ⟨#[]⟩ 0, .int .i64 13]) (by simp [results, Tryz.results37, go_sem, tokV, c0, c1, c2, c3]) rfl ⟨rfl, ?_⟩
        first | exact (Old.refl w).alloc _ | exact ((Old.refl w).alloc _).set4 (Nat.le_refl _) _ _ _ _
      · have HP := Lib.hid hp
        have hz := span_step hlt2 hp
        have HZ := Lib.hid hz
        clear hp hz
        go_wp2_with fail
        refine (digitR_is HP _).mono ?_
        rintro e w1 ⟨rfl, rfl⟩
        go_wp2
        go_roundg (s.size - (j + 1))
        case measure => have := HG.out; omega
        case rel => exact ⟨j + 1, rfl, hlt2, by first | rfl | rw [hwj.out], by have := HJ.out; have := HZ.out; omega, rfl⟩
    · have hd : decide ((j : Int) < (s.size : Int)) = false := by simp only [decide_eq_false_iff_not]; omega
      have hz := span_end (P := Lx.digit) (t := s) (q := j) (by omega)
      have hjj : J = j := by have := HJ.out; omega
      subst hjj
      clear hz
      exfalso
      omega

set_option maxRecDepth 100000 in
set_option maxHeartbeats 2000000 in
theorem read_num_pos_in_ok (s : ByteArray) (hs : s.size ≤ 140737488355328) (i : Nat) (hi : i < s.size) (b126 : ((s[i].toNat : Int) == 126) = false) (hdg : Hid (Lx.digit s[i] = true)) (J : Nat) (hJ : Hid (i + Lx.span Lx.digit (rest s (i)) = J)) (hiJ : i ≤ J) (hJs : J ≤ s.size) (hend : J < s.size) (n : Int) (ho : Hid (Lx.number (s.extract i J).data.toList = some n)) (hpt : Hid (Lx.part (s[J]'hend) = false)) (hqt : (((s[J]'hend).toNat : Int) == 39) = false) (w : World) :
    Calls Tryz.prog 37 #[.string s, .int .i64 i] w fun e w' => e = .returned (.tuple #[tokV 1 n (s.extract i J) i, .int .i64 0]) ∧ Old w w' := by
  have hlt : (i : Int) < (s.size : Int) := by omega
  have hx1 : (i : Int) ≤ (J : Int) := by omega
  have hx2 : (J : Int) ≤ (s.size : Int) := by omega
  have hdJ : decide ((J : Int) < (s.size : Int)) = true := by simp only [decide_eq_true_eq]; omega
  have hdJ2 : decide (J < s.size) = true := by simp only [decide_eq_true_eq]; omega
  have HS := Lib.hid hs
  have HI := Lib.hid hi
  have HJ2 := Lib.hid hiJ
  have HJS := Lib.hid hJs
  go_enter Tryz.func37, Tryz.ntmps37
  go_wp2_with fail
  refine (digitR_is hdg _).mono ?_
  rintro e w1 ⟨rfl, rfl⟩
  go_wp2_with fail
  go_loopg [7] (s.size - (i)) (fun g x wr => ∃ j : Nat, g = s.size - j ∧ j ≤ s.size ∧ x = .int .i64 j ∧ j + Lx.span Lx.digit (rest s j) = J ∧ wr = w.alloc (.cells #[.int .i64 0, .int .i64 0, .string ⟨#[]⟩, .int .i64 0] 41 (0, 0)))
  case atStart => exact ⟨i, rfl, by have := HJ2.out; have := HJS.out; omega, by first | rfl | rw [HW1.out], hJ.out, rfl⟩
  case round =>
    obtain ⟨j, hgk, hj, rfl, hjE, rfl⟩ := hrel
    have HG := Lib.hid hgk
    have HJ := Lib.hid hjE
    clear hgk hjE
    by_cases hlt2 : j < s.size
    · have hd : decide ((j : Int) < (s.size : Int)) = true := by simp only [decide_eq_true_eq]; omega
      have hwj : Hid (wrap64 ((j : Int) + 1) = ((j + 1 : Nat) : Int)) := Lib.hid (by rw [IntWalk.wrap64_in _ (by have := HS.out; omega)]; omega)
      cases hp : Lx.digit s[j]
      · have HP := Lib.hid hp
        have hz := span_stop hlt2 hp
        have hjj : J = j := by have := HJ.out; omega
        subst hjj
        clear hp hz
        go_wp2_with fail
        refine (digitR_is HP _).mono ?_
        rintro e w1 ⟨rfl, rfl⟩
        go_wp2_with fail
        (with_reducible refine (refNumber_is _ ho _).mono ?_)
        unfold numV
        rintro e w1 ⟨rfl, rfl⟩
        go_wp2_with fail
        refine (innerR_is hpt _).mono ?_
        rintro e w1 ⟨rfl, rfl⟩
        obtain ⟨c0, c1, c2, c3, g0, g1, g2, g3⟩ := (Blk.new' (w := w) (b := w.heap.size) rfl #[.int .i64 0, .int .i64 0, .string ⟨#[]⟩, .int .i64 0] 41).four
        go_wp2
        refine bodyPost_ret (v := .tuple #[tokV 1 n (s.extract i J) i, .int .i64 0]) (by simp [results, Tryz.results37, go_sem, tokV, c0, c1, c2, c3]) rfl ⟨rfl, ?_⟩
        first | exact (Old.refl w).alloc _ | exact ((Old.refl w).alloc _).set4 (Nat.le_refl _) _ _ _ _
      · have HP := Lib.hid hp
        have hz := span_step hlt2 hp
        have HZ := Lib.hid hz
        clear hp hz
        go_wp2_with fail
        refine (digitR_is HP _).mono ?_
        rintro e w1 ⟨rfl, rfl⟩
        go_wp2
        go_roundg (s.size - (j + 1))
        case measure => have := HG.out; omega
        case rel => exact ⟨j + 1, rfl, hlt2, by first | rfl | rw [hwj.out], by have := HJ.out; have := HZ.out; omega, rfl⟩
    · have hd : decide ((j : Int) < (s.size : Int)) = false := by simp only [decide_eq_false_iff_not]; omega
      have hz := span_end (P := Lx.digit) (t := s) (q := j) (by omega)
      have hjj : J = j := by have := HJ.out; omega
      subst hjj
      clear hz
      exfalso
      omega

set_option maxRecDepth 100000 in
set_option maxHeartbeats 2000000 in
theorem read_num_pos_end_none (s : ByteArray) (hs : s.size ≤ 140737488355328) (i : Nat) (hi : i < s.size) (b126 : ((s[i].toNat : Int) == 126) = false) (hdg : Hid (Lx.digit s[i] = true)) (J : Nat) (hJ : Hid (i + Lx.span Lx.digit (rest s (i)) = J)) (hiJ : i ≤ J) (hJs : J ≤ s.size) (hend : J = s.size) (ho : Hid (Lx.number (s.extract i J).data.toList = none)) (w : World) :
    Calls Tryz.prog 37 #[.string s, .int .i64 i] w fun e w' => e = .returned (.tuple #[tokV 0 0 ⟨#[]⟩ 0, .int .i64 13]) ∧ Old w w' := by
  have hlt : (i : Int) < (s.size : Int) := by omega
  have hx1 : (i : Int) ≤ (J : Int) := by omega
  have hx2 : (J : Int) ≤ (s.size : Int) := by omega
  have hdJ : decide ((J : Int) < (s.size : Int)) = false := by simp only [decide_eq_false_iff_not]; omega
  have hdJ2 : decide (J < s.size) = false := by simp only [decide_eq_false_iff_not]; omega
  have HS := Lib.hid hs
  have HI := Lib.hid hi
  have HJ2 := Lib.hid hiJ
  have HJS := Lib.hid hJs
  have HEND := Lib.hid hend
  clear hend
  go_enter Tryz.func37, Tryz.ntmps37
  go_wp2_with fail
  refine (digitR_is hdg _).mono ?_
  rintro e w1 ⟨rfl, rfl⟩
  go_wp2_with fail
  go_loopg [7] (s.size - (i)) (fun g x wr => ∃ j : Nat, g = s.size - j ∧ j ≤ s.size ∧ x = .int .i64 j ∧ j + Lx.span Lx.digit (rest s j) = J ∧ wr = w.alloc (.cells #[.int .i64 0, .int .i64 0, .string ⟨#[]⟩, .int .i64 0] 41 (0, 0)))
  case atStart => exact ⟨i, rfl, by have := HJ2.out; have := HJS.out; omega, by first | rfl | rw [HW1.out], hJ.out, rfl⟩
  case round =>
    obtain ⟨j, hgk, hj, rfl, hjE, rfl⟩ := hrel
    have HG := Lib.hid hgk
    have HJ := Lib.hid hjE
    clear hgk hjE
    by_cases hlt2 : j < s.size
    · have hd : decide ((j : Int) < (s.size : Int)) = true := by simp only [decide_eq_true_eq]; omega
      have hwj : Hid (wrap64 ((j : Int) + 1) = ((j + 1 : Nat) : Int)) := Lib.hid (by rw [IntWalk.wrap64_in _ (by have := HS.out; omega)]; omega)
      cases hp : Lx.digit s[j]
      · have HP := Lib.hid hp
        have hz := span_stop hlt2 hp
        have hjj : J = j := by have := HJ.out; omega
        subst hjj
        clear hp hz
        exfalso
        have := HEND.out
        omega
      · have HP := Lib.hid hp
        have hz := span_step hlt2 hp
        have HZ := Lib.hid hz
        clear hp hz
        go_wp2_with fail
        refine (digitR_is HP _).mono ?_
        rintro e w1 ⟨rfl, rfl⟩
        go_wp2
        go_roundg (s.size - (j + 1))
        case measure => have := HG.out; omega
        case rel => exact ⟨j + 1, rfl, hlt2, by first | rfl | rw [hwj.out], by have := HJ.out; have := HZ.out; omega, rfl⟩
    · have hd : decide ((j : Int) < (s.size : Int)) = false := by simp only [decide_eq_false_iff_not]; omega
      have hz := span_end (P := Lx.digit) (t := s) (q := j) (by omega)
      have hjj : J = j := by have := HJ.out; omega
      subst hjj
      clear hz
      go_wp2_with fail
      (with_reducible refine (refNumber_is _ ho _).mono ?_)
      unfold numV
      rintro e w1 ⟨rfl, rfl⟩
      obtain ⟨c0, c1, c2, c3, g0, g1, g2, g3⟩ := (Blk.new' (w := w) (b := w.heap.size) rfl #[.int .i64 0, .int .i64 0, .string ⟨#[]⟩, .int .i64 0] 41).four
      go_wp2
      refine bodyPost_ret (v := .tuple #[tokV 0 0 ⟨#[]⟩ 0, .int .i64 13]) (by simp [results, Tryz.results37, go_sem, tokV, c0, c1, c2, c3]) rfl ⟨rfl, ?_⟩
      first | exact (Old.refl w).alloc _ | exact ((Old.refl w).alloc _).set4 (Nat.le_refl _) _ _ _ _

set_option maxRecDepth 100000 in
set_option maxHeartbeats 2000000 in
theorem read_num_pos_end_ok (s : ByteArray) (hs : s.size ≤ 140737488355328) (i : Nat) (hi : i < s.size) (b126 : ((s[i].toNat : Int) == 126) = false) (hdg : Hid (Lx.digit s[i] = true)) (J : Nat) (hJ : Hid (i + Lx.span Lx.digit (rest s (i)) = J)) (hiJ : i ≤ J) (hJs : J ≤ s.size) (hend : J = s.size) (n : Int) (ho : Hid (Lx.number (s.extract i J).data.toList = some n)) (w : World) :
    Calls Tryz.prog 37 #[.string s, .int .i64 i] w fun e w' => e = .returned (.tuple #[tokV 1 n (s.extract i J) i, .int .i64 0]) ∧ Old w w' := by
  have hlt : (i : Int) < (s.size : Int) := by omega
  have hx1 : (i : Int) ≤ (J : Int) := by omega
  have hx2 : (J : Int) ≤ (s.size : Int) := by omega
  have hdJ : decide ((J : Int) < (s.size : Int)) = false := by simp only [decide_eq_false_iff_not]; omega
  have hdJ2 : decide (J < s.size) = false := by simp only [decide_eq_false_iff_not]; omega
  have HS := Lib.hid hs
  have HI := Lib.hid hi
  have HJ2 := Lib.hid hiJ
  have HJS := Lib.hid hJs
  have HEND := Lib.hid hend
  clear hend
  go_enter Tryz.func37, Tryz.ntmps37
  go_wp2_with fail
  refine (digitR_is hdg _).mono ?_
  rintro e w1 ⟨rfl, rfl⟩
  go_wp2_with fail
  go_loopg [7] (s.size - (i)) (fun g x wr => ∃ j : Nat, g = s.size - j ∧ j ≤ s.size ∧ x = .int .i64 j ∧ j + Lx.span Lx.digit (rest s j) = J ∧ wr = w.alloc (.cells #[.int .i64 0, .int .i64 0, .string ⟨#[]⟩, .int .i64 0] 41 (0, 0)))
  case atStart => exact ⟨i, rfl, by have := HJ2.out; have := HJS.out; omega, by first | rfl | rw [HW1.out], hJ.out, rfl⟩
  case round =>
    obtain ⟨j, hgk, hj, rfl, hjE, rfl⟩ := hrel
    have HG := Lib.hid hgk
    have HJ := Lib.hid hjE
    clear hgk hjE
    by_cases hlt2 : j < s.size
    · have hd : decide ((j : Int) < (s.size : Int)) = true := by simp only [decide_eq_true_eq]; omega
      have hwj : Hid (wrap64 ((j : Int) + 1) = ((j + 1 : Nat) : Int)) := Lib.hid (by rw [IntWalk.wrap64_in _ (by have := HS.out; omega)]; omega)
      cases hp : Lx.digit s[j]
      · have HP := Lib.hid hp
        have hz := span_stop hlt2 hp
        have hjj : J = j := by have := HJ.out; omega
        subst hjj
        clear hp hz
        exfalso
        have := HEND.out
        omega
      · have HP := Lib.hid hp
        have hz := span_step hlt2 hp
        have HZ := Lib.hid hz
        clear hp hz
        go_wp2_with fail
        refine (digitR_is HP _).mono ?_
        rintro e w1 ⟨rfl, rfl⟩
        go_wp2
        go_roundg (s.size - (j + 1))
        case measure => have := HG.out; omega
        case rel => exact ⟨j + 1, rfl, hlt2, by first | rfl | rw [hwj.out], by have := HJ.out; have := HZ.out; omega, rfl⟩
    · have hd : decide ((j : Int) < (s.size : Int)) = false := by simp only [decide_eq_false_iff_not]; omega
      have hz := span_end (P := Lx.digit) (t := s) (q := j) (by omega)
      have hjj : J = j := by have := HJ.out; omega
      subst hjj
      clear hz
      go_wp2_with fail
      (with_reducible refine (refNumber_is _ ho _).mono ?_)
      unfold numV
      rintro e w1 ⟨rfl, rfl⟩
      obtain ⟨c0, c1, c2, c3, g0, g1, g2, g3⟩ := (Blk.new' (w := w) (b := w.heap.size) rfl #[.int .i64 0, .int .i64 0, .string ⟨#[]⟩, .int .i64 0] 41).four
      go_wp2
      refine bodyPost_ret (v := .tuple #[tokV 1 n (s.extract i J) i, .int .i64 0]) (by simp [results, Tryz.results37, go_sem, tokV, c0, c1, c2, c3]) rfl ⟨rfl, ?_⟩
      first | exact (Old.refl w).alloc _ | exact ((Old.refl w).alloc _).set4 (Nat.le_refl _) _ _ _ _

end Go.Proofs.YtdchnjijdkgfhaaGreatDoor
