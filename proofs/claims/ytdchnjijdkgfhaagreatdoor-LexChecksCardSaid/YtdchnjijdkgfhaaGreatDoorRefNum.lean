/- The reference's integers: how they are written, and which one a text is. -/
import Derived.Test.YtdchnjijdkgfhaaGreatDoorNextParts
import Derived.Test.YtdchnjijdkgfhaaGreatDoorNumPure
import Derived.Laws.Runes
namespace Go.Proofs.YtdchnjijdkgfhaaGreatDoor
open Go.RowKit

theorem digitR_any (c : UInt8) (w : World) :
    Calls Tryz.prog 54 #[.int .u8 c.toNat] w fun e w' => e = .returned (.bool (Lx.digit c)) ∧ w' = w := by
  go_enter Tryz.func54, Tryz.ntmps54
  go_wp2
  all_goals
    go_ret
    exact ⟨ret_bool (by rw [Bool.eq_iff_iff]; simp [Lx.digit]; try omega), rfl⟩
theorem digitR_is {c : UInt8} {v : Bool} (hv : Hid (Lx.digit c = v)) (w : World) :
    Calls Tryz.prog 54 #[.int .u8 c.toNat] w fun e w' => e = .returned (.bool v) ∧ w' = w := by
  have h := digitR_any c w
  rw [hv.out] at h
  exact h

theorem drop_cons {t : ByteArray} {j : Nat} (h : j < t.size) : t.data.toList.drop j = t[j] :: t.data.toList.drop (j + 1) := by
  rw [List.drop_eq_getElem_cons (by simpa using h)]
  rfl
/-- The end of the reference's Number. -/
def numEnd (neg : Bool) : Option Int → Option Int
  | none => none
  | some m => if neg then some m else if m = -9223372036854775808 then none else some (-m)
/-- What one digit does. -/
theorem down_step {c : UInt8} {n : Int} {r : List UInt8} (h0 : -9223372036854775808 ≤ n ∧ n ≤ 0) (hc : Lx.digit c = true) :
    (0 ≤ (c.toNat : Int) - 48 ∧ (c.toNat : Int) - 48 ≤ 9) ∧ IntKind.u8.wrap ((c.toNat : Int) - 48) = (c.toNat : Int) - 48 ∧
    IntKind.i64.wrap ((c.toNat : Int) - 48) = (c.toNat : Int) - 48 ∧
    wrap64 (-9223372036854775808 + ((c.toNat : Int) - 48)) = -9223372036854775808 + ((c.toNat : Int) - 48) ∧
    (n < (-9223372036854775808 + ((c.toNat : Int) - 48)).tdiv 10 → Lx.goDown n (c :: r) = none) ∧
    (¬ n < (-9223372036854775808 + ((c.toNat : Int) - 48)).tdiv 10 → Lx.goDown n (c :: r) = Lx.goDown (10 * n - ((c.toNat : Int) - 48)) r ∧ wrap64 (10 * n) = 10 * n ∧
      wrap64 (10 * n - ((c.toNat : Int) - 48)) = 10 * n - ((c.toNat : Int) - 48) ∧ -9223372036854775808 ≤ 10 * n - ((c.toNat : Int) - 48) ∧ 10 * n - ((c.toNat : Int) - 48) ≤ 0) := by
  have hb : 48 ≤ c.toNat ∧ c.toNat ≤ 57 := by simpa [Lx.digit] using hc
  refine ⟨by omega, ?_, IntWalk.i64_in _ (by omega), IntWalk.wrap64_in _ (by omega), fun h => ?_, fun h => ?_⟩
  · have e : (c.toNat : Int) - 48 = ((c.toNat - 48 : Nat) : Int) := by omega
    rw [e]
    simp [IntKind.wrap, IntKind.signed, IntKind.bits]
    omega
  · rw [Lx.goDown, if_pos hc, if_pos h]
  · have hd := (Lx.down_fits h0.2 (d := (c.toNat : Int) - 48) (by omega)).1 h
    refine ⟨by rw [Lx.goDown, if_pos hc, if_neg h], IntWalk.wrap64_in _ (by omega), IntWalk.wrap64_in _ (by omega), hd, by omega⟩

set_option maxRecDepth 100000 in
set_option maxHeartbeats 2000000 in
theorem refNumber_neg (s : ByteArray) (hsz : s.size ≤ 30) (hlt : 1 < s.size) (h126 : (((s[0]'(Nat.lt_trans Nat.zero_lt_one hlt)).toNat : Int) == 126) = true) (h48 : (((s[1]'hlt).toNat : Int) == 48) = false) (w : World) :
    Calls Tryz.prog 39 #[.string s] w fun e w' => e = .returned (numV (numEnd true (Lx.goDown 0 (s.data.toList.drop 1)))) ∧ w' = w := by
  have HSZ := Lib.hid (And.intro hsz hlt)
  have hd0 : decide ((0 : Int) < (s.size : Int)) = true := by simp only [decide_eq_true_eq]; omega
  have hd30 : decide ((30 : Int) < (s.size : Int)) = false := by simp only [decide_eq_false_iff_not]; omega
  have hp0 : (0 : Int) < (s.size : Int) := by omega
  have hne1 : ((s.size : Int) == 1) = false := beq_eq_false_iff_ne.2 (by omega)
  have hp1 : (1 : Int) < (s.size : Int) := by omega
  clear hsz
  go_enter Tryz.func39, Tryz.ntmps39
  go_wp2_with fail
  go_loopg [5, 7] (s.size - 1) (fun g x y wr => ∃ (j : Nat) (n : Int), g = s.size - j ∧ 1 ≤ j ∧ j ≤ s.size ∧ x = .int .i64 n ∧ y = .int .i64 j ∧ (-9223372036854775808 ≤ n ∧ n ≤ 0) ∧ Lx.goDown n (s.data.toList.drop j) = Lx.goDown 0 (s.data.toList.drop 1) ∧ wr = w)
  case atStart => exact ⟨1, 0, rfl, Nat.le_refl _, by have := HSZ.out; omega, rfl, rfl, by omega, rfl, rfl⟩
  case round =>
    obtain ⟨j, n, hgk, hij, hj, rfl, rfl, hn, hG, rfl⟩ := hrel
    have HGK := Lib.hid hgk
    clear hgk
    by_cases hlt : j < s.size
    · have hdl : decide ((j : Int) < (s.size : Int)) = true := by simp only [decide_eq_true_eq]; omega
      have hdc := drop_cons hlt
      obtain ⟨c, hc⟩ : ∃ c, s[j] = c := ⟨_, rfl⟩
      rw [hc] at hdc
      rw [hdc] at hG
      have hw1 : wrap64 ((j : Int) + 1) = ((j + 1 : Nat) : Int) := by rw [IntWalk.wrap64_in _ (by have := HSZ.out; omega)]; omega
      have hw1' : wrap64 ((j : Int) + 1) = (j : Int) + 1 := by rw [hw1]; omega
      have HLT := Lib.hid hlt
      cases hdg : Lx.digit c
      · have hno : Lx.goDown 0 (s.data.toList.drop 1) = none := by rw [← hG, Lx.goDown, hdg]; rfl
        have HD := Lib.hid hdg
        have HNO := Lib.hid hno
        clear hG hno hdg hdc hn hij
        go_wp2_with fail
        refine (digitR_is HD _).mono ?_
        rintro e w1 ⟨rfl, rfl⟩
        go_wp2
        refine bodyPost_ret (v := numV none) (by simp [results, Tryz.results39, go_sem, numV]) rfl ⟨by rw [HNO.out]; rfl, rfl⟩
      · have HD := Lib.hid hdg
        obtain ⟨s1, s2, s3, s4, s5, s6⟩ := down_step (r := s.data.toList.drop (j + 1)) hn hdg
        by_cases hov : n < (-9223372036854775808 + ((c.toNat : Int) - 48)).tdiv 10
        · have hno : Lx.goDown 0 (s.data.toList.drop 1) = none := by rw [← hG]; exact s5 hov
          have hov' : decide (n < (-9223372036854775808 + ((c.toNat : Int) - 48)).tdiv 10) = true := by simpa using hov
          have HNO := Lib.hid hno
          clear hG hno hdg hdc hn hij s5 s6 hov
          go_wp2_with fail
          refine (digitR_is HD _).mono ?_
          rintro e w1 ⟨rfl, rfl⟩
          go_wp2
          refine bodyPost_ret (v := numV none) (by simp [results, Tryz.results39, go_sem, numV]) rfl ⟨by rw [HNO.out]; rfl, rfl⟩
        · obtain ⟨t1, t2, t3, t4, t5⟩ := s6 hov
          have hov' : decide (n < (-9223372036854775808 + ((c.toNat : Int) - 48)).tdiv 10) = false := by simpa using hov
          have HG := Lib.hid (t1.symm.trans hG)
          have HB := Lib.hid (And.intro t4 t5)
          have HT := Lib.hid t3
          clear hG hdg hdc hn hij s5 s6 hov t1 t4 t5
          go_wp2_with fail
          refine (digitR_is HD _).mono ?_
          rintro e w1 ⟨rfl, rfl⟩
          go_wp2
          go_roundg (s.size - (j + 1))
          case measure => have := HGK.out; have := HLT.out; omega
          case rel => exact ⟨j + 1, _, rfl, by omega, HLT.out, rfl, by first | rfl | rw [hw1], by first | exact HB.out | (rw [HT.out]; exact HB.out), by first | exact HG.out | (rw [HT.out]; exact HG.out), rfl⟩
    · have hdl : decide ((j : Int) < (s.size : Int)) = false := by simp only [decide_eq_false_iff_not]; omega
      have hjs : j = s.size := by omega
      have hend : Lx.goDown 0 (s.data.toList.drop 1) = some n := by
        rw [← hG, List.drop_of_length_le (by rw [Array.length_toList]; show s.size ≤ j; omega)]
        rfl
      have HEND := Lib.hid hend
      clear hG hend hlt hij
      go_wp2
      refine bodyPost_ret (v := numV (some n)) (by simp [results, Tryz.results39, go_sem, numV]) rfl ⟨by rw [HEND.out]; rfl, rfl⟩

set_option maxRecDepth 100000 in
set_option maxHeartbeats 2000000 in
theorem refNumber_pos (s : ByteArray) (hsz : s.size ≤ 30) (hlt : 0 < s.size) (h126 : (((s[0]'hlt).toNat : Int) == 126) = false) (h48 : (((s[0]'hlt).toNat : Int) == 48) = false) (w : World) :
    Calls Tryz.prog 39 #[.string s] w fun e w' => e = .returned (numV (numEnd false (Lx.goDown 0 (s.data.toList.drop 0)))) ∧ w' = w := by
  have HSZ := Lib.hid (And.intro hsz hlt)
  have hd0 : decide ((0 : Int) < (s.size : Int)) = true := by simp only [decide_eq_true_eq]; omega
  have hd30 : decide ((30 : Int) < (s.size : Int)) = false := by simp only [decide_eq_false_iff_not]; omega
  have hp0 : (0 : Int) < (s.size : Int) := by omega
  have hne1 : ((s.size : Int) == 0) = false := beq_eq_false_iff_ne.2 (by omega)
  clear hsz
  go_enter Tryz.func39, Tryz.ntmps39
  go_wp2_with fail
  go_loopg [5, 7] (s.size - 0) (fun g x y wr => ∃ (j : Nat) (n : Int), g = s.size - j ∧ 0 ≤ j ∧ j ≤ s.size ∧ x = .int .i64 n ∧ y = .int .i64 j ∧ (-9223372036854775808 ≤ n ∧ n ≤ 0) ∧ Lx.goDown n (s.data.toList.drop j) = Lx.goDown 0 (s.data.toList.drop 0) ∧ wr = w)
  case atStart => exact ⟨0, 0, rfl, Nat.le_refl _, by have := HSZ.out; omega, rfl, rfl, by omega, rfl, rfl⟩
  case round =>
    obtain ⟨j, n, hgk, hij, hj, rfl, rfl, hn, hG, rfl⟩ := hrel
    have HGK := Lib.hid hgk
    clear hgk
    by_cases hlt : j < s.size
    · have hdl : decide ((j : Int) < (s.size : Int)) = true := by simp only [decide_eq_true_eq]; omega
      have hdc := drop_cons hlt
      obtain ⟨c, hc⟩ : ∃ c, s[j] = c := ⟨_, rfl⟩
      rw [hc] at hdc
      rw [hdc] at hG
      have hw1 : wrap64 ((j : Int) + 1) = ((j + 1 : Nat) : Int) := by rw [IntWalk.wrap64_in _ (by have := HSZ.out; omega)]; omega
      have hw1' : wrap64 ((j : Int) + 1) = (j : Int) + 1 := by rw [hw1]; omega
      have HLT := Lib.hid hlt
      cases hdg : Lx.digit c
      · have hno : Lx.goDown 0 (s.data.toList.drop 0) = none := by rw [← hG, Lx.goDown, hdg]; rfl
        have HD := Lib.hid hdg
        have HNO := Lib.hid hno
        clear hG hno hdg hdc hn hij
        go_wp2_with fail
        refine (digitR_is HD _).mono ?_
        rintro e w1 ⟨rfl, rfl⟩
        go_wp2
        refine bodyPost_ret (v := numV none) (by simp [results, Tryz.results39, go_sem, numV]) rfl ⟨by rw [HNO.out]; rfl, rfl⟩
      · have HD := Lib.hid hdg
        obtain ⟨s1, s2, s3, s4, s5, s6⟩ := down_step (r := s.data.toList.drop (j + 1)) hn hdg
        by_cases hov : n < (-9223372036854775808 + ((c.toNat : Int) - 48)).tdiv 10
        · have hno : Lx.goDown 0 (s.data.toList.drop 0) = none := by rw [← hG]; exact s5 hov
          have hov' : decide (n < (-9223372036854775808 + ((c.toNat : Int) - 48)).tdiv 10) = true := by simpa using hov
          have HNO := Lib.hid hno
          clear hG hno hdg hdc hn hij s5 s6 hov
          go_wp2_with fail
          refine (digitR_is HD _).mono ?_
          rintro e w1 ⟨rfl, rfl⟩
          go_wp2
          refine bodyPost_ret (v := numV none) (by simp [results, Tryz.results39, go_sem, numV]) rfl ⟨by rw [HNO.out]; rfl, rfl⟩
        · obtain ⟨t1, t2, t3, t4, t5⟩ := s6 hov
          have hov' : decide (n < (-9223372036854775808 + ((c.toNat : Int) - 48)).tdiv 10) = false := by simpa using hov
          have HG := Lib.hid (t1.symm.trans hG)
          have HB := Lib.hid (And.intro t4 t5)
          have HT := Lib.hid t3
          clear hG hdg hdc hn hij s5 s6 hov t1 t4 t5
          go_wp2_with fail
          refine (digitR_is HD _).mono ?_
          rintro e w1 ⟨rfl, rfl⟩
          go_wp2
          go_roundg (s.size - (j + 1))
          case measure => have := HGK.out; have := HLT.out; omega
          case rel => exact ⟨j + 1, _, rfl, by omega, HLT.out, rfl, by first | rfl | rw [hw1], by first | exact HB.out | (rw [HT.out]; exact HB.out), by first | exact HG.out | (rw [HT.out]; exact HG.out), rfl⟩
    · have hdl : decide ((j : Int) < (s.size : Int)) = false := by simp only [decide_eq_false_iff_not]; omega
      have hjs : j = s.size := by omega
      have hend : Lx.goDown 0 (s.data.toList.drop 0) = some n := by
        rw [← hG, List.drop_of_length_le (by rw [Array.length_toList]; show s.size ≤ j; omega)]
        rfl
      have HEND := Lib.hid hend
      clear hG hend hlt hij
      by_cases hl : n = -9223372036854775808
      · have hl' : (n == -9223372036854775808) = true := by simpa using hl
        have he : numEnd false (some n) = none := by unfold numEnd; simp [hl]
        have HE := Lib.hid he
        clear he hl
        go_wp2
        refine bodyPost_ret (v := numV none) (by simp [results, Tryz.results39, go_sem, numV]) rfl ⟨by rw [HEND.out, HE.out], rfl⟩
      · have hl' : (n == -9223372036854775808) = false := beq_eq_false_iff_ne.2 hl
        have he : numEnd false (some n) = some (-n) := by unfold numEnd; simp [hl]
        have hw : wrap64 (-n) = -n := IntWalk.wrap64_in _ (by omega)
        have HE := Lib.hid he
        clear he hl hn
        go_wp2
        refine bodyPost_ret (v := numV (some (-n))) (by simp [results, Tryz.results39, go_sem, numV, hw]) rfl ⟨by rw [HEND.out, HE.out], rfl⟩

set_option maxRecDepth 100000 in
set_option maxHeartbeats 2000000 in
theorem refNumber_zero (s : ByteArray) (hsz : s.size ≤ 30) (hlt : 0 < s.size) (h1 : s.size = 1) (h126 : (((s[0]'hlt).toNat : Int) == 126) = false) (h48 : (((s[0]'hlt).toNat : Int) == 48) = true) (w : World) :
    Calls Tryz.prog 39 #[.string s] w fun e w' => e = .returned (numV (numEnd false (Lx.goDown 0 (s.data.toList.drop 0)))) ∧ w' = w := by
  have HSZ := Lib.hid (And.intro hsz hlt)
  have hd0 : decide ((0 : Int) < (s.size : Int)) = true := by simp only [decide_eq_true_eq]; omega
  have hd30 : decide ((30 : Int) < (s.size : Int)) = false := by simp only [decide_eq_false_iff_not]; omega
  have hp0 : (0 : Int) < (s.size : Int) := by omega
  have hne1 : ((s.size : Int) == 0) = false := beq_eq_false_iff_ne.2 (by omega)
  have hd1 : decide ((1 : Int) < (s.size : Int)) = false := by simp only [decide_eq_false_iff_not]; omega
  clear hsz h1
  go_enter Tryz.func39, Tryz.ntmps39
  go_wp2_with fail
  go_loopg [5, 7] (s.size - 0) (fun g x y wr => ∃ (j : Nat) (n : Int), g = s.size - j ∧ 0 ≤ j ∧ j ≤ s.size ∧ x = .int .i64 n ∧ y = .int .i64 j ∧ (-9223372036854775808 ≤ n ∧ n ≤ 0) ∧ Lx.goDown n (s.data.toList.drop j) = Lx.goDown 0 (s.data.toList.drop 0) ∧ wr = w)
  case atStart => exact ⟨0, 0, rfl, Nat.le_refl _, by have := HSZ.out; omega, rfl, rfl, by omega, rfl, rfl⟩
  case round =>
    obtain ⟨j, n, hgk, hij, hj, rfl, rfl, hn, hG, rfl⟩ := hrel
    have HGK := Lib.hid hgk
    clear hgk
    by_cases hlt : j < s.size
    · have hdl : decide ((j : Int) < (s.size : Int)) = true := by simp only [decide_eq_true_eq]; omega
      have hdc := drop_cons hlt
      obtain ⟨c, hc⟩ : ∃ c, s[j] = c := ⟨_, rfl⟩
      rw [hc] at hdc
      rw [hdc] at hG
      have hw1 : wrap64 ((j : Int) + 1) = ((j + 1 : Nat) : Int) := by rw [IntWalk.wrap64_in _ (by have := HSZ.out; omega)]; omega
      have hw1' : wrap64 ((j : Int) + 1) = (j : Int) + 1 := by rw [hw1]; omega
      have HLT := Lib.hid hlt
      cases hdg : Lx.digit c
      · have hno : Lx.goDown 0 (s.data.toList.drop 0) = none := by rw [← hG, Lx.goDown, hdg]; rfl
        have HD := Lib.hid hdg
        have HNO := Lib.hid hno
        clear hG hno hdg hdc hn hij
        go_wp2_with fail
        refine (digitR_is HD _).mono ?_
        rintro e w1 ⟨rfl, rfl⟩
        go_wp2
        refine bodyPost_ret (v := numV none) (by simp [results, Tryz.results39, go_sem, numV]) rfl ⟨by rw [HNO.out]; rfl, rfl⟩
      · have HD := Lib.hid hdg
        obtain ⟨s1, s2, s3, s4, s5, s6⟩ := down_step (r := s.data.toList.drop (j + 1)) hn hdg
        by_cases hov : n < (-9223372036854775808 + ((c.toNat : Int) - 48)).tdiv 10
        · have hno : Lx.goDown 0 (s.data.toList.drop 0) = none := by rw [← hG]; exact s5 hov
          have hov' : decide (n < (-9223372036854775808 + ((c.toNat : Int) - 48)).tdiv 10) = true := by simpa using hov
          have HNO := Lib.hid hno
          clear hG hno hdg hdc hn hij s5 s6 hov
          go_wp2_with fail
          refine (digitR_is HD _).mono ?_
          rintro e w1 ⟨rfl, rfl⟩
          go_wp2
          refine bodyPost_ret (v := numV none) (by simp [results, Tryz.results39, go_sem, numV]) rfl ⟨by rw [HNO.out]; rfl, rfl⟩
        · obtain ⟨t1, t2, t3, t4, t5⟩ := s6 hov
          have hov' : decide (n < (-9223372036854775808 + ((c.toNat : Int) - 48)).tdiv 10) = false := by simpa using hov
          have HG := Lib.hid (t1.symm.trans hG)
          have HB := Lib.hid (And.intro t4 t5)
          have HT := Lib.hid t3
          clear hG hdg hdc hn hij s5 s6 hov t1 t4 t5
          go_wp2_with fail
          refine (digitR_is HD _).mono ?_
          rintro e w1 ⟨rfl, rfl⟩
          go_wp2
          go_roundg (s.size - (j + 1))
          case measure => have := HGK.out; have := HLT.out; omega
          case rel => exact ⟨j + 1, _, rfl, by omega, HLT.out, rfl, by first | rfl | rw [hw1], by first | exact HB.out | (rw [HT.out]; exact HB.out), by first | exact HG.out | (rw [HT.out]; exact HG.out), rfl⟩
    · have hdl : decide ((j : Int) < (s.size : Int)) = false := by simp only [decide_eq_false_iff_not]; omega
      have hjs : j = s.size := by omega
      have hend : Lx.goDown 0 (s.data.toList.drop 0) = some n := by
        rw [← hG, List.drop_of_length_le (by rw [Array.length_toList]; show s.size ≤ j; omega)]
        rfl
      have HEND := Lib.hid hend
      clear hG hend hlt hij
      by_cases hl : n = -9223372036854775808
      · have hl' : (n == -9223372036854775808) = true := by simpa using hl
        have he : numEnd false (some n) = none := by unfold numEnd; simp [hl]
        have HE := Lib.hid he
        clear he hl
        go_wp2
        refine bodyPost_ret (v := numV none) (by simp [results, Tryz.results39, go_sem, numV]) rfl ⟨by rw [HEND.out, HE.out], rfl⟩
      · have hl' : (n == -9223372036854775808) = false := beq_eq_false_iff_ne.2 hl
        have he : numEnd false (some n) = some (-n) := by unfold numEnd; simp [hl]
        have hw : wrap64 (-n) = -n := IntWalk.wrap64_in _ (by omega)
        have HE := Lib.hid he
        clear he hl hn
        go_wp2
        refine bodyPost_ret (v := numV (some (-n))) (by simp [results, Tryz.results39, go_sem, numV, hw]) rfl ⟨by rw [HEND.out, HE.out], rfl⟩

set_option maxRecDepth 100000 in
set_option maxHeartbeats 2000000 in
theorem refNumber_bad (s : ByteArray) (w : World) (i : Nat)
    (h : s.size = 0 ∨ (∃ h0 : 0 < s.size, ((s[0].toNat : Int) == 126) = true ∧ (s.size = 1 ∨ 30 < s.size ∨ ∃ h1 : 1 < s.size, ((s[1].toNat : Int) == 48) = true)) ∨
      (∃ h0 : 0 < s.size, ((s[0].toNat : Int) == 126) = false ∧ (30 < s.size ∨ (1 < s.size ∧ ((s[0].toNat : Int) == 48) = true)))) :
    Calls Tryz.prog 39 #[.string s] w fun e w' => e = .returned (numV none) ∧ w' = w := by
  rcases h with h | ⟨h0, h126, h⟩ | ⟨h0, h126, h⟩
  · have hd0 : decide ((0 : Int) < (s.size : Int)) = false := by simp only [decide_eq_false_iff_not]; omega
    have hne : ((s.size : Int) == 0) = true := by rw [beq_iff_eq]; omega
    clear h
    go_enter Tryz.func39, Tryz.ntmps39
    go_wp2
    refine bodyPost_ret (v := numV none) (by simp [results, Tryz.results39, go_sem, numV]) rfl ⟨rfl, rfl⟩
  · have hd0 : decide ((0 : Int) < (s.size : Int)) = true := by simp only [decide_eq_true_eq]; omega
    have hp0 : (0 : Int) < (s.size : Int) := by omega
    by_cases h1 : s.size = 1
    · have hne : ((s.size : Int) == 1) = true := by rw [beq_iff_eq]; omega
      clear h h1
      go_enter Tryz.func39, Tryz.ntmps39
      go_wp2
      refine bodyPost_ret (v := numV none) (by simp [results, Tryz.results39, go_sem, numV]) rfl ⟨rfl, rfl⟩
    · have hne : ((s.size : Int) == 1) = false := beq_eq_false_iff_ne.2 (by omega)
      by_cases h30 : 30 < s.size
      · have hd30 : decide ((30 : Int) < (s.size : Int)) = true := by simp only [decide_eq_true_eq]; omega
        clear h h1 h30
        go_enter Tryz.func39, Tryz.ntmps39
        go_wp2
        refine bodyPost_ret (v := numV none) (by simp [results, Tryz.results39, go_sem, numV]) rfl ⟨rfl, rfl⟩
      · obtain ⟨hlt, h48⟩ : ∃ h1 : 1 < s.size, ((s[1].toNat : Int) == 48) = true := by
          rcases h with h | h | h
          · exact absurd h h1
          · exact absurd h h30
          · exact h
        have hd30 : decide ((30 : Int) < (s.size : Int)) = false := by simp only [decide_eq_false_iff_not]; omega
        have hd1 : decide ((1 : Int) < (s.size : Int)) = true := by simp only [decide_eq_true_eq]; omega
        have hp1 : (1 : Int) < (s.size : Int) := by omega
        clear h h1 h30
        go_enter Tryz.func39, Tryz.ntmps39
        go_wp2
        refine bodyPost_ret (v := numV none) (by simp [results, Tryz.results39, go_sem, numV]) rfl ⟨rfl, rfl⟩
  · have hd0 : decide ((0 : Int) < (s.size : Int)) = true := by simp only [decide_eq_true_eq]; omega
    have hp0 : (0 : Int) < (s.size : Int) := by omega
    have hne : ((s.size : Int) == 0) = false := beq_eq_false_iff_ne.2 (by omega)
    by_cases h30 : 30 < s.size
    · have hd30 : decide ((30 : Int) < (s.size : Int)) = true := by simp only [decide_eq_true_eq]; omega
      clear h h30
      go_enter Tryz.func39, Tryz.ntmps39
      go_wp2
      refine bodyPost_ret (v := numV none) (by simp [results, Tryz.results39, go_sem, numV]) rfl ⟨rfl, rfl⟩
    · obtain ⟨h1, h48⟩ : 1 < s.size ∧ ((s[0].toNat : Int) == 48) = true := h.resolve_left h30
      have hd30 : decide ((30 : Int) < (s.size : Int)) = false := by simp only [decide_eq_false_iff_not]; omega
      have hd1 : decide ((1 : Int) < (s.size : Int)) = true := by simp only [decide_eq_true_eq]; omega
      clear h h1 h30
      go_enter Tryz.func39, Tryz.ntmps39
      go_wp2
      refine bodyPost_ret (v := numV none) (by simp [results, Tryz.results39, go_sem, numV]) rfl ⟨rfl, rfl⟩

theorem u8_beq (c : UInt8) (k : Nat) (hk : k < 256) : ((c.toNat : Int) == (k : Int)) = decide (c = UInt8.ofNat k) := by
  rw [Bool.eq_iff_iff, beq_iff_eq, decide_eq_true_eq]
  exact u8_int c k hk
theorem head_peek {s : ByteArray} (h : 0 < s.size) : Lx.peek s.data.toList 0 = s[0] := by
  have := peek_in (t := s) (p := 0) (n := 0) (by omega)
  simpa [rest] using this
theorem second_peek {s : ByteArray} (h : 1 < s.size) : Lx.peek (s.data.toList.drop 1) 0 = s[1] := by
  rw [Lx.peek_dropped]
  have := peek_in (t := s) (p := 0) (n := 1) (by omega)
  simpa [rest] using this

theorem refNumber_any (s : ByteArray) (w : World) :
    Calls Tryz.prog 39 #[.string s] w fun e w' => e = .returned (numV (Lx.number s.data.toList)) ∧ w' = w := by
  rw [← Lx.refNum_is]
  have hlen : s.data.toList.length = s.size := by rw [Array.length_toList]; rfl
  have hnil : s.data.toList = [] ↔ s.size = 0 := by rw [← hlen, List.length_eq_zero_iff]
  by_cases h0 : s.size = 0
  · have e : Lx.refNum s.data.toList = none := by rw [hnil.2 h0]; rfl
    rw [e]
    exact refNumber_bad s w 0 (.inl h0)
  · have hp : 0 < s.size := by omega
    unfold Lx.refNum
    simp only
    rw [hlen, head_peek hp]
    have b126 : ((s[0].toNat : Int) == 126) = decide (s[0] = 126) := u8_beq s[0] 126 (by decide)
    have b48 : ((s[0].toNat : Int) == 48) = decide (s[0] = 48) := u8_beq s[0] 48 (by decide)
    by_cases hneg : s[0] = 126
    · simp only [if_pos hneg]
      have h126 : ((s[0].toNat : Int) == 126) = true := b126.trans (by simpa using hneg)
      by_cases hbad : s.data.toList.drop 1 = [] ∨ 30 < s.size ∨ (Lx.peek (s.data.toList.drop 1) 0 = 48 ∧ 1 < s.size)
      · rw [if_pos hbad]
        refine refNumber_bad s w 0 (.inr (.inl ⟨hp, h126, ?_⟩))
        rcases hbad with h | h | ⟨h, h1⟩
        · left
          have := congrArg List.length h
          rw [List.length_drop, hlen, List.length_nil] at this
          omega
        · exact .inr (.inl h)
        · refine .inr (.inr ⟨h1, ?_⟩)
          rw [second_peek h1] at h
          exact (u8_beq s[1] 48 (by decide)).trans (by simpa using h)
      · rw [if_neg hbad]
        have h30 : ¬ 30 < s.size := fun e => hbad (.inr (.inl e))
        have h1 : 1 < s.size := by
          rcases Nat.lt_or_ge 1 s.size with h | h
          · exact h
          · exact absurd (.inl (List.drop_of_length_le (by rw [hlen]; exact h))) hbad
        have h48 : ((s[1].toNat : Int) == 48) = false := by
          refine (u8_beq s[1] 48 (by decide)).trans ?_
          rw [decide_eq_false_iff_not]
          intro e
          exact hbad (.inr (.inr ⟨by rw [second_peek h1]; exact e, h1⟩))
        have := refNumber_neg s (by omega) h1 h126 h48 w
        cases hg : Lx.goDown 0 (s.data.toList.drop 1) <;> (rw [hg] at this; exact this)
    · simp only [if_neg hneg]
      have h126 : ((s[0].toNat : Int) == 126) = false := b126.trans (by simpa using hneg)
      by_cases hbad : s.data.toList = [] ∨ 30 < s.size ∨ (Lx.peek s.data.toList 0 = 48 ∧ 1 < s.size)
      · rw [if_pos hbad]
        refine refNumber_bad s w 0 (.inr (.inr ⟨hp, h126, ?_⟩))
        rcases hbad with h | h | ⟨h, h1⟩
        · exact absurd (hnil.1 h) h0
        · exact .inl h
        · rw [head_peek hp] at h
          exact .inr ⟨h1, b48.trans (by simpa using h)⟩
      · rw [if_neg hbad]
        have h30 : ¬ 30 < s.size := fun e => hbad (.inr (.inl e))
        have key : ∀ m, numEnd false (some m) = if m = -9223372036854775808 then none else some (-m) := fun m => by unfold numEnd; simp
        cases h48 : ((s[0].toNat : Int) == 48)
        · have := refNumber_pos s (by omega) hp h126 h48 w
          rw [List.drop_zero] at this
          cases hg : Lx.goDown 0 s.data.toList with
          | none => rw [hg] at this; exact this
          | some m => rw [hg, key] at this; exact this
        · have h1 : s.size = 1 := by
            rcases Nat.lt_or_ge 1 s.size with h | h
            · refine absurd (.inr (.inr ⟨?_, h⟩)) hbad
              rw [head_peek hp]
              rw [b48, decide_eq_true_eq] at h48
              exact h48
            · omega
          have := refNumber_zero s (by omega) hp h1 h126 h48 w
          rw [List.drop_zero] at this
          cases hg : Lx.goDown 0 s.data.toList with
          | none => rw [hg] at this; exact this
          | some m => rw [hg, key] at this; exact this
end Go.Proofs.YtdchnjijdkgfhaaGreatDoor
