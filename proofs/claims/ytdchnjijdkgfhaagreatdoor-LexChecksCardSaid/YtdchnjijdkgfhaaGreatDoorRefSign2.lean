/- The reference's signs: two bytes, and all. -/
import Derived.Test.YtdchnjijdkgfhaaGreatDoorRefSign
namespace Go.Proofs.YtdchnjijdkgfhaaGreatDoor
open Go.RowKit

theorem extract_two {s : ByteArray} {i : Nat} (h : i + 1 < s.size) : (s.extract i (i + 2)).toList = [s[i], s[i + 1]] := by
  rw [Lib.toList_data, extract_take]
  show (s.data.toList.drop i).take 2 = _
  rw [drop_cons (t := s) (j := i) (by omega), drop_cons (t := s) (j := i + 1) h]
  rfl
theorem two_is (c d x y : UInt8) : (([c, d] : List UInt8) == [x, y]) = (decide (c = x) && decide (d = y)) := by
  rw [Bool.eq_iff_iff]
  simp

set_option maxRecDepth 100000 in
set_option maxHeartbeats 1000000 in
theorem sign_arrow1 (s : ByteArray) (hs : s.size ≤ 140737488355328) (i : Nat) (hi : i + 1 < s.size) (h1 : ((s.extract i (i + 2)).toList == ([61, 62] : List UInt8)) = true) (w : World) :
    Calls Tryz.prog 61 #[.string s, .int .i64 i] w fun e w' => e = .returned (.int .i64 2) ∧ w' = w := by
  have hil : i < s.size := by omega
  have hd : decide ((i : Int) + 1 < (s.size : Int)) = true := by simp only [decide_eq_true_eq]; omega
  have hlt : (i : Int) < (s.size : Int) := by omega
  have hw1 : wrap64 ((i : Int) + 1) = (i : Int) + 1 := IntWalk.wrap64_in _ (by omega)
  have hw2 : wrap64 ((i : Int) + 2) = (i : Int) + 2 := IntWalk.wrap64_in _ (by omega)
  have e1 : (i : Int) ≤ (i : Int) + 2 := by omega
  have e2 : (i : Int) + 2 ≤ (s.size : Int) := by omega
  have e3 : ((i : Int) + 2).toNat = i + 2 := by omega
  have e4 : 0 ≤ (i : Int) + 2 := by omega
  go_enter Tryz.func61, Tryz.ntmps61
  go_wp2
  go_ret
  exact ⟨rfl, rfl⟩

set_option maxRecDepth 100000 in
set_option maxHeartbeats 1000000 in
theorem sign_arrow2 (s : ByteArray) (hs : s.size ≤ 140737488355328) (i : Nat) (hi : i + 1 < s.size) (h1 : ((s.extract i (i + 2)).toList == ([61, 62] : List UInt8)) = false) (h2 : ((s.extract i (i + 2)).toList == ([45, 62] : List UInt8)) = true) (w : World) :
    Calls Tryz.prog 61 #[.string s, .int .i64 i] w fun e w' => e = .returned (.int .i64 2) ∧ w' = w := by
  have hil : i < s.size := by omega
  have hd : decide ((i : Int) + 1 < (s.size : Int)) = true := by simp only [decide_eq_true_eq]; omega
  have hlt : (i : Int) < (s.size : Int) := by omega
  have hw1 : wrap64 ((i : Int) + 1) = (i : Int) + 1 := IntWalk.wrap64_in _ (by omega)
  have hw2 : wrap64 ((i : Int) + 2) = (i : Int) + 2 := IntWalk.wrap64_in _ (by omega)
  have e1 : (i : Int) ≤ (i : Int) + 2 := by omega
  have e2 : (i : Int) + 2 ≤ (s.size : Int) := by omega
  have e3 : ((i : Int) + 2).toNat = i + 2 := by omega
  have e4 : 0 ≤ (i : Int) + 2 := by omega
  go_enter Tryz.func61, Tryz.ntmps61
  go_wp2
  go_ret
  exact ⟨rfl, rfl⟩

set_option maxRecDepth 100000 in
set_option maxHeartbeats 1000000 in
theorem sign_one (s : ByteArray) (hs : s.size ≤ 140737488355328) (i : Nat) (hi : i + 1 < s.size) (h1 : ((s.extract i (i + 2)).toList == ([61, 62] : List UInt8)) = false) (h2 : ((s.extract i (i + 2)).toList == ([45, 62] : List UInt8)) = false) (w : World) :
    Calls Tryz.prog 61 #[.string s, .int .i64 i] w fun e w' => e = .returned (.int .i64 ((if Lx.sign1.contains (s[i]'(by omega)) then 1 else 0 : Nat) : Int)) ∧ ∃ n, w' = w.drewN n := by
  have hil : i < s.size := by omega
  have hd : decide ((i : Int) + 1 < (s.size : Int)) = true := by simp only [decide_eq_true_eq]; omega
  have hlt : (i : Int) < (s.size : Int) := by omega
  have hw1 : wrap64 ((i : Int) + 1) = (i : Int) + 1 := IntWalk.wrap64_in _ (by omega)
  have hw2 : wrap64 ((i : Int) + 2) = (i : Int) + 2 := IntWalk.wrap64_in _ (by omega)
  have e1 : (i : Int) ≤ (i : Int) + 2 := by omega
  have e2 : (i : Int) + 2 ≤ (s.size : Int) := by omega
  have e3 : ((i : Int) + 2).toNat = i + 2 := by omega
  have e4 : 0 ≤ (i : Int) + 2 := by omega
  obtain ⟨c, hc⟩ : ∃ c, s[i] = c := ⟨_, rfl⟩
  have hw1 : wrap64 ((i : Int) + 1) = (i : Int) + 1 := IntWalk.wrap64_in _ (by omega)
  rw [hc]
  obtain ⟨R, hR⟩ : ∃ R : Nat, (if Lx.sign1.contains c then 1 else 0) = R := ⟨_, rfl⟩
  rw [hR]
  have HR := Lib.hid hR
  clear hR
  go_enter Tryz.func61, Tryz.ntmps61
  go_wp2_with fail
  go_loopg [6] 14 (fun g x wr => ∃ k n : Nat, g = 14 - k ∧ k ≤ 14 ∧ x = .int .i64 k ∧ (∀ j (hj : j < 14), j < k → Lx.sign1[j]'hj ≠ c) ∧ wr = w.drewN n)
  case atStart => exact ⟨0, 0, rfl, by decide, rfl, fun j _ h => by omega, rfl⟩
  case round =>
    clear hw1 hw2 e1 e2 e3 e4 h1 h2 hd
    obtain ⟨k, n, hgk, hk, rfl, hno, rfl⟩ := hrel
    have HG := Lib.hid hgk
    clear hgk
    by_cases hl : k < 14
    · have hdk : decide ((k : Int) < 14) = true := by simp only [decide_eq_true_eq]; omega
      have hkl : (k : Int) < 14 := by omega
      have hx := signText_at ⟨k, hl⟩
      obtain ⟨x, hxe⟩ : ∃ x, Lx.sign1[k]'hl = x := ⟨_, rfl⟩
      have hx' : (⟨#[40, 41, 44, 59, 58, 124, 61, 60, 43, 45, 42, 47, 37, 95]⟩ : ByteArray)[k]'(show k < 14 from hl) = x := hx.trans hxe
      have hwk : Hid (wrap64 ((k : Int) + 1) = ((k + 1 : Nat) : Int)) := Lib.hid (by rw [IntWalk.wrap64_in _ (by omega)]; omega)
      by_cases hq : x = c
      · have hin : Lx.sign1.contains c = true := by
          rw [List.contains_iff_mem]
          exact (hxe.trans hq) ▸ List.getElem_mem (l := Lx.sign1) hl
        have HIN := Lib.hid hin
        have hb : ((x.toNat : Int) == (c.toNat : Int)) = true := by rw [hq]; simp
        clear hx hxe hno hin hq hk
        go_wp2_with fail
        go_quiet (fail)
        go_wp2
        go_ret
        have hr := HR.out
        rw [HIN.out, if_pos rfl] at hr
        subst hr
        exact ⟨rfl, _, World.drewN_drewN _ _ _⟩
      · have hn2 : ∀ j (hj : j < 14), j < k + 1 → Lx.sign1[j]'hj ≠ c := by
          intro j hj h
          rcases Nat.lt_succ_iff_lt_or_eq.1 h with h | h
          · exact hno j hj h
          · subst h; rw [hxe]; exact hq
        have HN := Lib.hid hn2
        have hb : ((x.toNat : Int) == (c.toNat : Int)) = false := by
          rw [beq_eq_false_iff_ne]
          intro e
          exact hq (UInt8.toNat_inj.1 (by omega))
        clear hx hxe hno hn2 hq hk
        go_wp2_with fail
        go_quiet (fail)
        go_wp2
        go_roundg (14 - (k + 1))
        case measure => have := HG.out; omega
        case rel => exact ⟨k + 1, _, rfl, hl, by first | rfl | rw [hwk.out], HN.out, rfl⟩
    · have hdk : decide ((k : Int) < 14) = false := by simp only [decide_eq_false_iff_not]; omega
      have hin : Lx.sign1.contains c = false := by
        rw [Bool.eq_false_iff]
        intro e
        rw [List.contains_iff_mem] at e
        obtain ⟨j, hj, e⟩ := List.mem_iff_getElem.1 e
        have hj' : j < 14 := hj
        exact hno j hj' (by omega) e
      have HIN := Lib.hid hin
      clear hno hin hl hk
      go_wp2
      go_ret
      have hr := HR.out
      rw [HIN.out, if_neg (by decide)] at hr
      subst hr
      exact ⟨rfl, _, rfl⟩

set_option maxHeartbeats 400000 in
theorem signR_any (s : ByteArray) (hs : s.size ≤ 140737488355328) (i : Nat) (hi : i < s.size) (w : World) :
    Calls Tryz.prog 61 #[.string s, .int .i64 i] w fun e w' => e = .returned (.int .i64 ((Lx.signLen (rest s i) : Nat) : Int)) ∧ ∃ n, w' = w.drewN n := by
  have hp0 : Lx.peek (rest s i) 0 = s[i] := peek_in (p := i) (n := 0) hi
  unfold Lx.signLen
  rw [hp0]
  by_cases h2 : i + 1 < s.size
  · have hp1 : Lx.peek (rest s i) 1 = s[i + 1] := peek_in (p := i) (n := 1) h2
    rw [hp1]
    have k1 : ((s.extract i (i + 2)).toList == ([61, 62] : List UInt8)) = (decide (s[i] = 61) && decide (s[i + 1] = 62)) := by rw [extract_two h2, two_is]
    have k2 : ((s.extract i (i + 2)).toList == ([45, 62] : List UInt8)) = (decide (s[i] = 45) && decide (s[i + 1] = 62)) := by rw [extract_two h2, two_is]
    cases g1 : (decide (s[i] = 61) && decide (s[i + 1] = 62))
    · cases g2 : (decide (s[i] = 45) && decide (s[i + 1] = 62))
      · rw [if_neg]
        · exact sign_one s hs i h2 (k1.trans g1) (k2.trans g2) w
        · rintro ⟨h | h, h'⟩
          · rw [h, h'] at g1; cases g1
          · rw [h, h'] at g2; cases g2
      · simp only [Bool.and_eq_true, decide_eq_true_eq] at g2
        rw [if_pos ⟨.inr g2.1, g2.2⟩]
        exact (sign_arrow2 s hs i h2 (k1.trans g1) (k2.trans (by simp [g2])) w).mono (fun e w' h => ⟨h.1, 0, h.2⟩)
    · simp only [Bool.and_eq_true, decide_eq_true_eq] at g1
      rw [if_pos ⟨.inl g1.1, g1.2⟩]
      exact (sign_arrow1 s hs i h2 (k1.trans (by simp [g1])) w).mono (fun e w' h => ⟨h.1, 0, h.2⟩)
  · have hp1 : Lx.peek (rest s i) 1 = 0 := peek_out (p := i) (n := 1) (by omega)
    rw [hp1, if_neg (by rintro ⟨_, h⟩; cases h)]
    exact sign_end s hs i (by omega) w
end Go.Proofs.YtdchnjijdkgfhaaGreatDoor
