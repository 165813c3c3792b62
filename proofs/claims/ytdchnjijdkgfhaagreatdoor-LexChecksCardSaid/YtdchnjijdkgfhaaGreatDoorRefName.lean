/- The reference's names: where one ends. -/
import Derived.Test.YtdchnjijdkgfhaaGreatDoorRefRead
namespace Go.Proofs.YtdchnjijdkgfhaaGreatDoor
open Go.RowKit

/-- Where letters end, where digits behind them and one byte more end. -/
structure Ends (s : ByteArray) (i J K : Nat) : Prop where
  hi : i ≤ s.size
  j : i + Lx.span Lx.part (rest s i) = J
  k : J + 1 + Lx.span Lx.digit (rest s (J + 1)) = K
theorem Ends.le {s : ByteArray} {i J K : Nat} (h : Ends s i J K) : J ≤ s.size := by
  have := Lx.span_le Lx.part (rest s i)
  rw [rest_length] at this
  have := h.hi
  have := h.j
  omega
theorem Ends.quote {s : ByteArray} {i J K : Nat} (h : Ends s i J K) (hq : J < s.size) (h39 : s[J] = 39) (hk : J + 1 < K) : i + Lx.nameLen (rest s i) = K := by
  have hp : Lx.peek (rest s i) (Lx.span Lx.part (rest s i)) = 39 := by
    have := rest_peek s i (Lx.span Lx.part (rest s i)) 0
    rw [h.j, Nat.add_zero, peek_in (by omega)] at this
    rw [← this]
    simpa using h39
  have hd : Lx.digit (Lx.peek (rest s i) (Lx.span Lx.part (rest s i) + 1)) = true := by
    have hpos : 0 < Lx.span Lx.digit (rest s (J + 1)) := by have := h.k; omega
    have := Lx.span_all hpos
    rwa [show J + 1 = i + (Lx.span Lx.part (rest s i) + 1) from by have := h.j; omega, rest_peek, Nat.add_zero] at this
  unfold Lx.nameLen
  simp only
  rw [if_pos ⟨hp, hd⟩, rest_drop]
  have := h.k
  have := h.j
  rw [show i + (Lx.span Lx.part (rest s i) + 1) = J + 1 from by omega]
  omega
theorem Ends.plain {s : ByteArray} {i J K : Nat} (h : Ends s i J K) (hq : ∀ hq : J < s.size, ¬ (s[J] = 39 ∧ J + 1 < K)) : i + Lx.nameLen (rest s i) = J := by
  unfold Lx.nameLen
  simp only
  rw [if_neg]
  · exact h.j
  rintro ⟨hp, hd⟩
  have h1 := rest_peek s i (Lx.span Lx.part (rest s i)) 0
  rw [h.j, Nat.add_zero, hp] at h1
  have hJ : J < s.size := by
    have := peek_lt (l := rest s J) (k := 0) (by rw [h1]; decide)
    rw [rest_length] at this
    omega
  refine hq hJ ⟨?_, ?_⟩
  · rw [peek_in (by omega)] at h1
    simpa using h1
  · have h2 := rest_peek s i (Lx.span Lx.part (rest s i) + 1) 0
    rw [Nat.add_zero, show i + (Lx.span Lx.part (rest s i) + 1) = J + 1 from by have := h.j; omega] at h2
    rw [← h2] at hd
    have := Lx.span_end Lx.digit0 (rest s (J + 1))
    rcases Nat.eq_zero_or_pos (Lx.span Lx.digit (rest s (J + 1))) with e | e
    · rw [e, hd] at this; cases this
    · have := h.k; omega

set_option maxRecDepth 100000 in
set_option maxHeartbeats 2000000 in
theorem named_quote (s : ByteArray) (hs : s.size ≤ 140737488355328) (i J K : Nat) (h : Ends s i J K) (hq : J < s.size) (b39 : ((s[J].toNat : Int) == 39) = true) (hk : J + 1 < K) (w : World) :
    Calls Tryz.prog 59 #[.string s, .int .i64 i] w fun e w' => e = .returned (.int .i64 ((i + Lx.nameLen (rest s i) : Nat) : Int)) ∧ w' = w := by
  have hJS := h.le
  have hr : i + Lx.nameLen (rest s i) = K := h.quote hq (by have := u8_beq s[J] 39 (by decide); rw [show ((s[J].toNat : Int) == ((39 : Nat) : Int)) = true from b39] at this; simpa using this.symm) hk
  have HR := Lib.hid hr
  have HE := Lib.hid h
  have HS := Lib.hid hs
  have HJS := Lib.hid hJS
  have hwJ : wrap64 ((J : Int) + 1) = ((J + 1 : Nat) : Int) := by rw [IntWalk.wrap64_in _ (by omega)]; omega
  have HWJ := Lib.hid hwJ
  have hdq : decide (J < s.size) = true := by simp only [decide_eq_true_eq]; omega
  have hdk : decide ((J : Int) + 1 < (K : Int)) = true := by simp only [decide_eq_true_eq]; omega
  have hdk2 : decide (J + 1 < K) = true := by simp only [decide_eq_true_eq]; omega
  clear hr h hJS hwJ
  go_enter Tryz.func59, Tryz.ntmps59
  go_wp2_with fail
  go_loopg [5] (s.size - i) (fun g x wr => ∃ j : Nat, g = s.size - j ∧ j ≤ s.size ∧ x = .int .i64 j ∧ j + Lx.span Lx.part (rest s j) = J ∧ wr = w)
  case atStart => exact ⟨i, rfl, HE.out.hi, rfl, HE.out.j, rfl⟩
  case round =>
    obtain ⟨j, hgk, hj, rfl, hjE, rfl⟩ := hrel
    have HG := Lib.hid hgk
    have HJ := Lib.hid hjE
    clear hgk hjE
    by_cases hlt : j < s.size
    · have hd : decide ((j : Int) < (s.size : Int)) = true := by simp only [decide_eq_true_eq]; omega
      have hwj : Hid (wrap64 ((j : Int) + 1) = ((j + 1 : Nat) : Int)) := Lib.hid (by rw [IntWalk.wrap64_in _ (by have := HS.out; omega)]; omega)
      cases hp : Lx.part s[j]
      · have HP := Lib.hid hp
        have hz := span_stop hlt hp
        have hjj : J = j := by have := HJ.out; omega
        subst hjj
        clear hp hz
        go_wp2_with fail
        refine (innerR_is HP _).mono ?_
        rintro e w1 ⟨rfl, rfl⟩
        go_wp2
        go_loopg [6] (s.size + 1 - (J + 1)) (fun g x wz => ∃ k : Nat, g = s.size + 1 - k ∧ k ≤ s.size + 1 ∧ x = .int .i64 k ∧ k + Lx.span Lx.digit (rest s k) = K ∧ wz = w1)
        case atStart => exact ⟨J + 1, rfl, by have := HJS.out; omega, by first | rfl | rw [HWJ.out], HE.out.k, rfl⟩
        case round =>
          obtain ⟨k, hgk, hk, rfl, hkK, rfl⟩ := hrel
          have HG2 := Lib.hid hgk
          have HK := Lib.hid hkK
          clear hgk hkK
          by_cases hlt2 : k < s.size
          · have hd2 : decide ((k : Int) < (s.size : Int)) = true := by simp only [decide_eq_true_eq]; omega
            have hwk : Hid (wrap64 ((k : Int) + 1) = ((k + 1 : Nat) : Int)) := Lib.hid (by rw [IntWalk.wrap64_in _ (by have := HS.out; omega)]; omega)
            cases hp : Lx.digit s[k]
            · have HP := Lib.hid hp
              have hz := span_stop hlt2 hp
              have hkk : K = k := by have := HK.out; omega
              subst hkk
              clear hp hz
              go_wp2_with fail
              refine (digitR_is HP _).mono ?_
              rintro e w1 ⟨rfl, rfl⟩
              go_wp2
              go_ret
              exact ⟨by rw [HR.out]; rfl, rfl⟩
            · have HP := Lib.hid hp
              have hz := span_step hlt2 hp
              have HZ := Lib.hid hz
              clear hp hz
              go_wp2_with fail
              refine (digitR_is HP _).mono ?_
              rintro e w1 ⟨rfl, rfl⟩
              go_wp2
              go_roundg (s.size + 1 - (k + 1))
              case measure => have := HG2.out; omega
              case rel => exact ⟨k + 1, rfl, by omega, by first | rfl | rw [hwk.out], by have := HK.out; have := HZ.out; omega, rfl⟩
          · have hd2 : decide ((k : Int) < (s.size : Int)) = false := by simp only [decide_eq_false_iff_not]; omega
            have hz := span_end (P := Lx.digit) (t := s) (q := k) (by omega)
            have hkk : K = k := by have := HK.out; omega
            subst hkk
            clear hz
            go_wp2
            go_ret
            exact ⟨by rw [HR.out]; rfl, rfl⟩
      · have HP := Lib.hid hp
        have hz := span_step hlt hp
        have HZ := Lib.hid hz
        clear hp hz
        go_wp2_with fail
        refine (innerR_is HP _).mono ?_
        rintro e w1 ⟨rfl, rfl⟩
        go_wp2
        go_roundg (s.size - (j + 1))
        case measure => have := HG.out; omega
        case rel => exact ⟨j + 1, rfl, hlt, by first | rfl | rw [hwj.out], by have := HJ.out; have := HZ.out; omega, rfl⟩
    · have hd : decide ((j : Int) < (s.size : Int)) = false := by simp only [decide_eq_false_iff_not]; omega
      have hz := span_end (P := Lx.part) (t := s) (q := j) (by omega)
      have hjj : J = j := by have := HJ.out; omega
      subst hjj
      clear hz
      exfalso
      omega

set_option maxRecDepth 100000 in
set_option maxHeartbeats 2000000 in
theorem named_bare (s : ByteArray) (hs : s.size ≤ 140737488355328) (i J K : Nat) (h : Ends s i J K) (hq : J < s.size) (b39 : ((s[J].toNat : Int) == 39) = false) (w : World) :
    Calls Tryz.prog 59 #[.string s, .int .i64 i] w fun e w' => e = .returned (.int .i64 ((i + Lx.nameLen (rest s i) : Nat) : Int)) ∧ w' = w := by
  have hJS := h.le
  have hr : i + Lx.nameLen (rest s i) = J := h.plain (fun _ e => by have h39 : ¬ s[J] = 39 := (by have := u8_beq s[J] 39 (by decide); rw [show ((s[J].toNat : Int) == ((39 : Nat) : Int)) = false from b39] at this; simpa using this.symm); exact h39 e.1)
  have HR := Lib.hid hr
  have HE := Lib.hid h
  have HS := Lib.hid hs
  have HJS := Lib.hid hJS
  have hwJ : wrap64 ((J : Int) + 1) = ((J + 1 : Nat) : Int) := by rw [IntWalk.wrap64_in _ (by omega)]; omega
  have HWJ := Lib.hid hwJ
  have hdq : decide (J < s.size) = true := by simp only [decide_eq_true_eq]; omega
  clear hr h hJS hwJ
  go_enter Tryz.func59, Tryz.ntmps59
  go_wp2_with fail
  go_loopg [5] (s.size - i) (fun g x wr => ∃ j : Nat, g = s.size - j ∧ j ≤ s.size ∧ x = .int .i64 j ∧ j + Lx.span Lx.part (rest s j) = J ∧ wr = w)
  case atStart => exact ⟨i, rfl, HE.out.hi, rfl, HE.out.j, rfl⟩
  case round =>
    obtain ⟨j, hgk, hj, rfl, hjE, rfl⟩ := hrel
    have HG := Lib.hid hgk
    have HJ := Lib.hid hjE
    clear hgk hjE
    by_cases hlt : j < s.size
    · have hd : decide ((j : Int) < (s.size : Int)) = true := by simp only [decide_eq_true_eq]; omega
      have hwj : Hid (wrap64 ((j : Int) + 1) = ((j + 1 : Nat) : Int)) := Lib.hid (by rw [IntWalk.wrap64_in _ (by have := HS.out; omega)]; omega)
      cases hp : Lx.part s[j]
      · have HP := Lib.hid hp
        have hz := span_stop hlt hp
        have hjj : J = j := by have := HJ.out; omega
        subst hjj
        clear hp hz
        go_wp2_with fail
        refine (innerR_is HP _).mono ?_
        rintro e w1 ⟨rfl, rfl⟩
        go_wp2
        go_loopg [6] (s.size + 1 - (J + 1)) (fun g x wz => ∃ k : Nat, g = s.size + 1 - k ∧ k ≤ s.size + 1 ∧ x = .int .i64 k ∧ k + Lx.span Lx.digit (rest s k) = K ∧ wz = w1)
        case atStart => exact ⟨J + 1, rfl, by have := HJS.out; omega, by first | rfl | rw [HWJ.out], HE.out.k, rfl⟩
        case round =>
          obtain ⟨k, hgk, hk, rfl, hkK, rfl⟩ := hrel
          have HG2 := Lib.hid hgk
          have HK := Lib.hid hkK
          clear hgk hkK
          by_cases hlt2 : k < s.size
          · have hd2 : decide ((k : Int) < (s.size : Int)) = true := by simp only [decide_eq_true_eq]; omega
            have hwk : Hid (wrap64 ((k : Int) + 1) = ((k + 1 : Nat) : Int)) := Lib.hid (by rw [IntWalk.wrap64_in _ (by have := HS.out; omega)]; omega)
            cases hp : Lx.digit s[k]
            · have HP := Lib.hid hp
              have hz := span_stop hlt2 hp
              have hkk : K = k := by have := HK.out; omega
              subst hkk
              clear hp hz
              go_wp2_with fail
              refine (digitR_is HP _).mono ?_
              rintro e w1 ⟨rfl, rfl⟩
              go_wp2
              go_ret
              exact ⟨by rw [HR.out]; rfl, rfl⟩
            · have HP := Lib.hid hp
              have hz := span_step hlt2 hp
              have HZ := Lib.hid hz
              clear hp hz
              go_wp2_with fail
              refine (digitR_is HP _).mono ?_
              rintro e w1 ⟨rfl, rfl⟩
              go_wp2
              go_roundg (s.size + 1 - (k + 1))
              case measure => have := HG2.out; omega
              case rel => exact ⟨k + 1, rfl, by omega, by first | rfl | rw [hwk.out], by have := HK.out; have := HZ.out; omega, rfl⟩
          · have hd2 : decide ((k : Int) < (s.size : Int)) = false := by simp only [decide_eq_false_iff_not]; omega
            have hz := span_end (P := Lx.digit) (t := s) (q := k) (by omega)
            have hkk : K = k := by have := HK.out; omega
            subst hkk
            clear hz
            go_wp2
            go_ret
            exact ⟨by rw [HR.out]; rfl, rfl⟩
      · have HP := Lib.hid hp
        have hz := span_step hlt hp
        have HZ := Lib.hid hz
        clear hp hz
        go_wp2_with fail
        refine (innerR_is HP _).mono ?_
        rintro e w1 ⟨rfl, rfl⟩
        go_wp2
        go_roundg (s.size - (j + 1))
        case measure => have := HG.out; omega
        case rel => exact ⟨j + 1, rfl, hlt, by first | rfl | rw [hwj.out], by have := HJ.out; have := HZ.out; omega, rfl⟩
    · have hd : decide ((j : Int) < (s.size : Int)) = false := by simp only [decide_eq_false_iff_not]; omega
      have hz := span_end (P := Lx.part) (t := s) (q := j) (by omega)
      have hjj : J = j := by have := HJ.out; omega
      subst hjj
      clear hz
      exfalso
      omega

set_option maxRecDepth 100000 in
set_option maxHeartbeats 2000000 in
theorem named_none (s : ByteArray) (hs : s.size ≤ 140737488355328) (i J K : Nat) (h : Ends s i J K) (hq : J < s.size) (b39 : ((s[J].toNat : Int) == 39) = true) (hk : ¬ J + 1 < K) (w : World) :
    Calls Tryz.prog 59 #[.string s, .int .i64 i] w fun e w' => e = .returned (.int .i64 ((i + Lx.nameLen (rest s i) : Nat) : Int)) ∧ w' = w := by
  have hJS := h.le
  have hr : i + Lx.nameLen (rest s i) = J := h.plain (fun _ e => hk e.2)
  have HR := Lib.hid hr
  have HE := Lib.hid h
  have HS := Lib.hid hs
  have HJS := Lib.hid hJS
  have hwJ : wrap64 ((J : Int) + 1) = ((J + 1 : Nat) : Int) := by rw [IntWalk.wrap64_in _ (by omega)]; omega
  have HWJ := Lib.hid hwJ
  have hdq : decide (J < s.size) = true := by simp only [decide_eq_true_eq]; omega
  have hdk : decide ((J : Int) + 1 < (K : Int)) = false := by simp only [decide_eq_false_iff_not]; omega
  have hdk2 : decide (J + 1 < K) = false := by simp only [decide_eq_false_iff_not]; omega
  clear hr h hJS hwJ
  go_enter Tryz.func59, Tryz.ntmps59
  go_wp2_with fail
  go_loopg [5] (s.size - i) (fun g x wr => ∃ j : Nat, g = s.size - j ∧ j ≤ s.size ∧ x = .int .i64 j ∧ j + Lx.span Lx.part (rest s j) = J ∧ wr = w)
  case atStart => exact ⟨i, rfl, HE.out.hi, rfl, HE.out.j, rfl⟩
  case round =>
    obtain ⟨j, hgk, hj, rfl, hjE, rfl⟩ := hrel
    have HG := Lib.hid hgk
    have HJ := Lib.hid hjE
    clear hgk hjE
    by_cases hlt : j < s.size
    · have hd : decide ((j : Int) < (s.size : Int)) = true := by simp only [decide_eq_true_eq]; omega
      have hwj : Hid (wrap64 ((j : Int) + 1) = ((j + 1 : Nat) : Int)) := Lib.hid (by rw [IntWalk.wrap64_in _ (by have := HS.out; omega)]; omega)
      cases hp : Lx.part s[j]
      · have HP := Lib.hid hp
        have hz := span_stop hlt hp
        have hjj : J = j := by have := HJ.out; omega
        subst hjj
        clear hp hz
        go_wp2_with fail
        refine (innerR_is HP _).mono ?_
        rintro e w1 ⟨rfl, rfl⟩
        go_wp2
        go_loopg [6] (s.size + 1 - (J + 1)) (fun g x wz => ∃ k : Nat, g = s.size + 1 - k ∧ k ≤ s.size + 1 ∧ x = .int .i64 k ∧ k + Lx.span Lx.digit (rest s k) = K ∧ wz = w1)
        case atStart => exact ⟨J + 1, rfl, by have := HJS.out; omega, by first | rfl | rw [HWJ.out], HE.out.k, rfl⟩
        case round =>
          obtain ⟨k, hgk, hk, rfl, hkK, rfl⟩ := hrel
          have HG2 := Lib.hid hgk
          have HK := Lib.hid hkK
          clear hgk hkK
          by_cases hlt2 : k < s.size
          · have hd2 : decide ((k : Int) < (s.size : Int)) = true := by simp only [decide_eq_true_eq]; omega
            have hwk : Hid (wrap64 ((k : Int) + 1) = ((k + 1 : Nat) : Int)) := Lib.hid (by rw [IntWalk.wrap64_in _ (by have := HS.out; omega)]; omega)
            cases hp : Lx.digit s[k]
            · have HP := Lib.hid hp
              have hz := span_stop hlt2 hp
              have hkk : K = k := by have := HK.out; omega
              subst hkk
              clear hp hz
              go_wp2_with fail
              refine (digitR_is HP _).mono ?_
              rintro e w1 ⟨rfl, rfl⟩
              go_wp2
              go_ret
              exact ⟨by rw [HR.out]; rfl, rfl⟩
            · have HP := Lib.hid hp
              have hz := span_step hlt2 hp
              have HZ := Lib.hid hz
              clear hp hz
              go_wp2_with fail
              refine (digitR_is HP _).mono ?_
              rintro e w1 ⟨rfl, rfl⟩
              go_wp2
              go_roundg (s.size + 1 - (k + 1))
              case measure => have := HG2.out; omega
              case rel => exact ⟨k + 1, rfl, by omega, by first | rfl | rw [hwk.out], by have := HK.out; have := HZ.out; omega, rfl⟩
          · have hd2 : decide ((k : Int) < (s.size : Int)) = false := by simp only [decide_eq_false_iff_not]; omega
            have hz := span_end (P := Lx.digit) (t := s) (q := k) (by omega)
            have hkk : K = k := by have := HK.out; omega
            subst hkk
            clear hz
            go_wp2
            go_ret
            exact ⟨by rw [HR.out]; rfl, rfl⟩
      · have HP := Lib.hid hp
        have hz := span_step hlt hp
        have HZ := Lib.hid hz
        clear hp hz
        go_wp2_with fail
        refine (innerR_is HP _).mono ?_
        rintro e w1 ⟨rfl, rfl⟩
        go_wp2
        go_roundg (s.size - (j + 1))
        case measure => have := HG.out; omega
        case rel => exact ⟨j + 1, rfl, hlt, by first | rfl | rw [hwj.out], by have := HJ.out; have := HZ.out; omega, rfl⟩
    · have hd : decide ((j : Int) < (s.size : Int)) = false := by simp only [decide_eq_false_iff_not]; omega
      have hz := span_end (P := Lx.part) (t := s) (q := j) (by omega)
      have hjj : J = j := by have := HJ.out; omega
      subst hjj
      clear hz
      exfalso
      omega

set_option maxRecDepth 100000 in
set_option maxHeartbeats 2000000 in
theorem named_end (s : ByteArray) (hs : s.size ≤ 140737488355328) (i J K : Nat) (h : Ends s i J K) (h0 : J = s.size) (w : World) :
    Calls Tryz.prog 59 #[.string s, .int .i64 i] w fun e w' => e = .returned (.int .i64 ((i + Lx.nameLen (rest s i) : Nat) : Int)) ∧ w' = w := by
  have hJS := h.le
  have hr : i + Lx.nameLen (rest s i) = J := h.plain (fun hq => absurd h0 (by omega))
  have HR := Lib.hid hr
  have HE := Lib.hid h
  have HS := Lib.hid hs
  have HJS := Lib.hid hJS
  have hwJ : wrap64 ((J : Int) + 1) = ((J + 1 : Nat) : Int) := by rw [IntWalk.wrap64_in _ (by omega)]; omega
  have HWJ := Lib.hid hwJ
  have hdq : decide (J < s.size) = false := by simp only [decide_eq_false_iff_not]; omega
  have H0 := Lib.hid h0
  clear h0
  clear hr h hJS hwJ
  go_enter Tryz.func59, Tryz.ntmps59
  go_wp2_with fail
  go_loopg [5] (s.size - i) (fun g x wr => ∃ j : Nat, g = s.size - j ∧ j ≤ s.size ∧ x = .int .i64 j ∧ j + Lx.span Lx.part (rest s j) = J ∧ wr = w)
  case atStart => exact ⟨i, rfl, HE.out.hi, rfl, HE.out.j, rfl⟩
  case round =>
    obtain ⟨j, hgk, hj, rfl, hjE, rfl⟩ := hrel
    have HG := Lib.hid hgk
    have HJ := Lib.hid hjE
    clear hgk hjE
    by_cases hlt : j < s.size
    · have hd : decide ((j : Int) < (s.size : Int)) = true := by simp only [decide_eq_true_eq]; omega
      have hwj : Hid (wrap64 ((j : Int) + 1) = ((j + 1 : Nat) : Int)) := Lib.hid (by rw [IntWalk.wrap64_in _ (by have := HS.out; omega)]; omega)
      cases hp : Lx.part s[j]
      · have HP := Lib.hid hp
        have hz := span_stop hlt hp
        have hjj : J = j := by have := HJ.out; omega
        exfalso
        have := H0.out
        omega
      · have HP := Lib.hid hp
        have hz := span_step hlt hp
        have HZ := Lib.hid hz
        clear hp hz
        go_wp2_with fail
        refine (innerR_is HP _).mono ?_
        rintro e w1 ⟨rfl, rfl⟩
        go_wp2
        go_roundg (s.size - (j + 1))
        case measure => have := HG.out; omega
        case rel => exact ⟨j + 1, rfl, hlt, by first | rfl | rw [hwj.out], by have := HJ.out; have := HZ.out; omega, rfl⟩
    · have hd : decide ((j : Int) < (s.size : Int)) = false := by simp only [decide_eq_false_iff_not]; omega
      have hz := span_end (P := Lx.part) (t := s) (q := j) (by omega)
      have hjj : J = j := by have := HJ.out; omega
      subst hjj
      clear hz
      go_wp2
      go_loopg [6] (s.size + 1 - (J + 1)) (fun g x wz => ∃ k : Nat, g = s.size + 1 - k ∧ k ≤ s.size + 1 ∧ x = .int .i64 k ∧ k + Lx.span Lx.digit (rest s k) = K ∧ wz = wr)
      case atStart => exact ⟨J + 1, rfl, by have := HJS.out; omega, by first | rfl | rw [HWJ.out], HE.out.k, rfl⟩
      case round =>
        obtain ⟨k, hgk, hk, rfl, hkK, rfl⟩ := hrel
        have HG2 := Lib.hid hgk
        have HK := Lib.hid hkK
        clear hgk hkK
        by_cases hlt2 : k < s.size
        · have hd2 : decide ((k : Int) < (s.size : Int)) = true := by simp only [decide_eq_true_eq]; omega
          have hwk : Hid (wrap64 ((k : Int) + 1) = ((k + 1 : Nat) : Int)) := Lib.hid (by rw [IntWalk.wrap64_in _ (by have := HS.out; omega)]; omega)
          cases hp : Lx.digit s[k]
          · have HP := Lib.hid hp
            have hz := span_stop hlt2 hp
            have hkk : K = k := by have := HK.out; omega
            subst hkk
            clear hp hz
            go_wp2_with fail
            refine (digitR_is HP _).mono ?_
            rintro e w1 ⟨rfl, rfl⟩
            go_wp2
            go_ret
            exact ⟨by rw [HR.out]; rfl, rfl⟩
          · have HP := Lib.hid hp
            have hz := span_step hlt2 hp
            have HZ := Lib.hid hz
            clear hp hz
            go_wp2_with fail
            refine (digitR_is HP _).mono ?_
            rintro e w1 ⟨rfl, rfl⟩
            go_wp2
            go_roundg (s.size + 1 - (k + 1))
            case measure => have := HG2.out; omega
            case rel => exact ⟨k + 1, rfl, by omega, by first | rfl | rw [hwk.out], by have := HK.out; have := HZ.out; omega, rfl⟩
        · have hd2 : decide ((k : Int) < (s.size : Int)) = false := by simp only [decide_eq_false_iff_not]; omega
          have hz := span_end (P := Lx.digit) (t := s) (q := k) (by omega)
          have hkk : K = k := by have := HK.out; omega
          subst hkk
          clear hz
          go_wp2
          go_ret
          exact ⟨by rw [HR.out]; rfl, rfl⟩

theorem namedR_any (s : ByteArray) (hs : s.size ≤ 140737488355328) (i : Nat) (hi : i ≤ s.size) (w : World) :
    Calls Tryz.prog 59 #[.string s, .int .i64 i] w fun e w' => e = .returned (.int .i64 ((i + Lx.nameLen (rest s i) : Nat) : Int)) ∧ w' = w := by
  obtain ⟨J, hJ⟩ : ∃ J, i + Lx.span Lx.part (rest s i) = J := ⟨_, rfl⟩
  obtain ⟨K, hK⟩ : ∃ K, J + 1 + Lx.span Lx.digit (rest s (J + 1)) = K := ⟨_, rfl⟩
  have h : Ends s i J K := ⟨hi, hJ, hK⟩
  have hle := h.le
  by_cases hq : J < s.size
  · cases b39 : ((s[J].toNat : Int) == 39)
    · exact named_bare s hs i J K h hq b39 w
    · by_cases hk : J + 1 < K
      · exact named_quote s hs i J K h hq b39 hk w
      · exact named_none s hs i J K h hq b39 hk w
  · exact named_end s hs i J K h (by omega) w

end Go.Proofs.YtdchnjijdkgfhaaGreatDoor
