/- LexKinds, walked. -/
import Derived.Test.YtdchnjijdkgfhaaGreatDoorRefPlain
namespace Go.Proofs.YtdchnjijdkgfhaaGreatDoor
open Go.RowKit

set_option maxHeartbeats 400000 in
theorem isName_is (t : ByteArray) (ht : t.size ≤ 140737488355328) (w : World) (hg : Gl w) {k : Int} (hk : Hid (Lx.kind t.data.toList = k)) :
    Calls Tryz.prog 21 #[.string t] w fun e w' => e = .returned (.bool (k == 2)) ∧ Old w w' := by
  go_enter Tryz.func21, Tryz.ntmps21
  go_wp2_with fail
  refine (kind_is t ht w hg hk).mono ?_
  rintro e w1 ⟨rfl, hO⟩
  go_wp2
  go_ret
  exact ⟨rfl, hO⟩
set_option maxHeartbeats 400000 in
theorem isCon_is (t : ByteArray) (ht : t.size ≤ 140737488355328) (w : World) (hg : Gl w) {k : Int} (hk : Hid (Lx.kind t.data.toList = k)) :
    Calls Tryz.prog 22 #[.string t] w fun e w' => e = .returned (.bool (k == 3)) ∧ Old w w' := by
  go_enter Tryz.func22, Tryz.ntmps22
  go_wp2_with fail
  refine (kind_is t ht w hg hk).mono ?_
  rintro e w1 ⟨rfl, hO⟩
  go_wp2
  go_ret
  exact ⟨rfl, hO⟩
set_option maxHeartbeats 400000 in
theorem isVar_is (t : ByteArray) (ht : t.size ≤ 140737488355328) (w : World) (hg : Gl w) {k : Int} (hk : Hid (Lx.kind t.data.toList = k)) :
    Calls Tryz.prog 23 #[.string t] w fun e w' => e = .returned (.bool (k == 4)) ∧ Old w w' := by
  go_enter Tryz.func23, Tryz.ntmps23
  go_wp2_with fail
  refine (kind_is t ht w hg hk).mono ?_
  rintro e w1 ⟨rfl, hO⟩
  go_wp2
  go_ret
  exact ⟨rfl, hO⟩
set_option maxHeartbeats 400000 in
theorem isWordL_is (t : ByteArray) (ht : t.size ≤ 140737488355328) (w : World) (hg : Gl w) {k : Int} (hk : Hid (Lx.kind t.data.toList = k)) :
    Calls Tryz.prog 24 #[.string t] w fun e w' => e = .returned (.bool (k == 5)) ∧ Old w w' := by
  go_enter Tryz.func24, Tryz.ntmps24
  go_wp2_with fail
  refine (kind_is t ht w hg hk).mono ?_
  rintro e w1 ⟨rfl, hO⟩
  go_wp2
  go_ret
  exact ⟨rfl, hO⟩
theorem kindR_is (t : ByteArray) (ht : t.size ≤ 140737488355328) (w : World) {k : Int} (hk : Hid (Lx.kind t.data.toList = k)) :
    Calls Tryz.prog 20 #[.string t] w fun e w' => e = .returned (.int .i64 k) ∧ Old w w' := by
  have := kindR_any t ht w
  rwa [hk.out] at this
theorem plain_is (t : ByteArray) (ht : t.size ≤ 140737488355328) (w : World) (hg : Gl w) {p : Bool} (hp : Hid (Lx.plain t.data.toList = p)) :
    Calls Tryz.prog 26 #[.string t] w fun e w' => e = .returned (.bool p) ∧ Old w w' := by
  have := plain_any t ht w hg
  rwa [hp.out] at this

/-! R.Plain -/
theorem drop_one_contains {s : ByteArray} {j : Nat} (h : j < s.size) : (rest s j).contains 39 = (decide (s[j] = 39) || (rest s (j + 1)).contains 39) := by
  show (s.data.toList.drop j).contains 39 = _
  rw [drop_cons h, List.contains_cons]
  congr 1
  rw [Bool.eq_iff_iff, beq_iff_eq, decide_eq_true_eq]
  exact eq_comm

set_option maxRecDepth 100000 in
set_option maxHeartbeats 1000000 in
theorem plainRef_none (s : ByteArray) (hs : s.size ≤ 140737488355328) (w : World) {k : Int} (hk : Hid (Lx.kind s.data.toList = k)) (h2 : (k == 2) = false) (h3 : (k == 3) = false) (h4 : (k == 4) = false) :
    Calls Tryz.prog 27 #[.string s] w fun e w' => e = .returned (.bool false) ∧ Old w w' := by
  go_enter Tryz.func27, Tryz.ntmps27
  go_wp2_with fail
  refine (kindR_is s hs w hk).mono ?_
  rintro e w1 ⟨rfl, hO⟩
  have n2 : (k != 2) = true := bne_iff_ne.2 (beq_eq_false_iff_ne.1 h2)
  have n3 : (k != 3) = true := bne_iff_ne.2 (beq_eq_false_iff_ne.1 h3)
  have n4 : (k != 4) = true := bne_iff_ne.2 (beq_eq_false_iff_ne.1 h4)
  go_wp2
  go_ret
  exact ⟨rfl, hO⟩

set_option maxRecDepth 100000 in
set_option maxHeartbeats 1000000 in
theorem plainRef_name (s : ByteArray) (hs : s.size ≤ 140737488355328) (hp : 0 < s.size) (w : World) {k : Int} (hk : Hid (Lx.kind s.data.toList = k)) (h : k = 2 ∨ k = 3 ∨ k = 4) (V : Bool) (hV : Hid ((rest s 1).contains 39 = V)) :
    Calls Tryz.prog 27 #[.string s] w fun e w' => e = .returned (.bool (!V)) ∧ Old w w' := by
  have HS := Lib.hid hs
  have HP := Lib.hid hp
  rcases h with rfl | rfl | rfl
  all_goals
    go_enter Tryz.func27, Tryz.ntmps27
    go_wp2_with fail
    refine (kindR_is s hs w hk).mono ?_
    rintro e w1 ⟨rfl, hO⟩
    clear hs hp
    go_wp2_with fail
    go_loopg [4] (s.size - 1) (fun g x wr => ∃ j : Nat, g = s.size - j ∧ 1 ≤ j ∧ j ≤ s.size ∧ x = .int .i64 j ∧ (rest s j).contains 39 = V ∧ wr = w1)
    case atStart => exact ⟨1, rfl, Nat.le_refl _, HP.out, rfl, hV.out, rfl⟩
    case round =>
      obtain ⟨j, hgk, h1, hj, rfl, hjV, rfl⟩ := hrel
      have HG := Lib.hid hgk
      have HJ := Lib.hid hjV
      have HL := Lib.hid h1
      clear hgk hjV h1
      by_cases hlt : j < s.size
      · have hd : decide ((j : Int) < (s.size : Int)) = true := by simp only [decide_eq_true_eq]; omega
        have hwj : Hid (wrap64 ((j : Int) + 1) = ((j + 1 : Nat) : Int)) := Lib.hid (by rw [IntWalk.wrap64_in _ (by have := HS.out; omega)]; omega)
        have hl : (j : Int) < (s.size : Int) := by omega
        have hstep := Lib.hid (drop_one_contains hlt)
        cases hq : ((s[j].toNat : Int) == 39)
        · have hne : Hid (decide (s[j] = 39) = false) := Lib.hid (by have := u8_beq s[j] 39 (by decide); rw [show ((s[j].toNat : Int) == ((39 : Nat) : Int)) = false from hq] at this; exact this.symm)
          go_wp2
          go_roundg (s.size - (j + 1))
          case measure => have := HG.out; omega
          case rel => exact ⟨j + 1, rfl, by omega, hlt, by first | rfl | rw [hwj.out], by have := hstep.out; rw [hne.out, Bool.false_or] at this; rw [← this]; exact HJ.out, rfl⟩
        · have hne : Hid (decide (s[j] = 39) = true) := Lib.hid (by have := u8_beq s[j] 39 (by decide); rw [show ((s[j].toNat : Int) == ((39 : Nat) : Int)) = true from hq] at this; exact this.symm)
          have hVt : Hid (V = true) := Lib.hid (by have := hstep.out; rw [hne.out, Bool.true_or] at this; rw [← HJ.out]; exact this)
          go_wp2
          go_ret
          exact ⟨by rw [hVt.out]; rfl, hO⟩
      · have hd : decide ((j : Int) < (s.size : Int)) = false := by simp only [decide_eq_false_iff_not]; omega
        have hVf : Hid (V = false) := Lib.hid (by rw [← HJ.out, rest_end (by omega)]; rfl)
        go_wp2
        go_ret
        exact ⟨by rw [hVf.out]; rfl, hO⟩

theorem plainRef_any (s : ByteArray) (hs : s.size ≤ 140737488355328) (w : World) :
    Calls Tryz.prog 27 #[.string s] w fun e w' => e = .returned (.bool (Lx.plain s.data.toList)) ∧ Old w w' := by
  have hlen : s.data.toList.length = s.size := by rw [Array.length_toList]; rfl
  have hpos : Lx.kind s.data.toList ≠ 0 → 0 < s.size := by
    intro h
    rcases Nat.eq_zero_or_pos s.size with e | e
    · rw [List.length_eq_zero_iff.1 (hlen.trans e)] at h
      exact absurd (by decide) h
    · exact e
  by_cases h23 : Lx.kind s.data.toList = 2 ∨ Lx.kind s.data.toList = 3
  · have hp := hpos (by rcases h23 with h | h <;> (rw [h]; decide))
    have hne := Lx.plain_kind2 h23
    rw [head_peek hp] at hne
    have hc : (rest s 1).contains 39 = s.data.toList.contains 39 := by
      have := drop_one_contains hp
      rw [rest_zero, decide_eq_false hne, Bool.false_or] at this
      exact this.symm
    have hl : Lx.plain s.data.toList = !((rest s 1).contains 39) := by
      unfold Lx.plain
      rw [if_pos h23, hc]
      congr 1
      rw [Bool.eq_iff_iff, decide_eq_true_eq]
      exact indexByte_mem
    rw [hl]
    rcases h23 with h | h
    · exact plainRef_name s hs hp w (Lib.hid h) (.inl rfl) _ (Lib.hid rfl)
    · exact plainRef_name s hs hp w (Lib.hid h) (.inr (.inl rfl)) _ (Lib.hid rfl)
  · unfold Lx.plain
    rw [if_neg h23]
    by_cases h4 : Lx.kind s.data.toList = 4
    · have hp := hpos (by rw [h4]; decide)
      have hc := Lx.var_no_quote h4
      rw [h4]
      have := plainRef_name s hs hp w (Lib.hid h4) (.inr (.inr rfl)) false (Lib.hid hc)
      exact this
    · rw [beq_eq_false_iff_ne.2 h4]
      exact plainRef_none s hs w (Lib.hid rfl) (beq_eq_false_iff_ne.2 (fun e => h23 (.inl e))) (beq_eq_false_iff_ne.2 (fun e => h23 (.inr e))) (beq_eq_false_iff_ne.2 h4)
theorem plainRef_is (t : ByteArray) (ht : t.size ≤ 140737488355328) (w : World) {p : Bool} (hp : Hid (Lx.plain t.data.toList = p)) :
    Calls Tryz.prog 27 #[.string t] w fun e w' => e = .returned (.bool p) ∧ Old w w' := by
  have := plainRef_any t ht w
  rwa [hp.out] at this

set_option maxRecDepth 100000 in
set_option maxHeartbeats 2000000 in
theorem lexKinds_any (s : ByteArray) (hs : s.size ≤ 140737488355328) (w : World) (hg : Gl w) :
    Calls Tryz.prog 5 #[.string s] w fun e w' => e = .returned (.bool true) ∧ Old w w' := by
  obtain ⟨k, hk⟩ : ∃ k, Lx.kind s.data.toList = k := ⟨_, rfl⟩
  obtain ⟨p, hp⟩ : ∃ p, Lx.plain s.data.toList = p := ⟨_, rfl⟩
  have HK := Lib.hid hk
  have HP := Lib.hid hp
  clear hk hp
  go_enter Tryz.func5, Tryz.ntmps5
  go_wp2_with fail
  refine (sane_any w hg).mono ?_
  rintro e w1 ⟨rfl, hO⟩
  go_wp2_with fail
  (with_reducible refine (kindR_is s hs w1 HK).mono ?_)
  rintro e w2 ⟨rfl, hO2⟩
  have g2 := hO.trans hO2
  clear hO hO2
  go_wp2_with fail
  (with_reducible refine (isName_is s hs w2 (hg.old g2) HK).mono ?_)
  rintro e w3 ⟨rfl, hO3⟩
  have g3 := g2.trans hO3
  clear g2 hO3
  go_wp2_with fail
  (with_reducible refine (isCon_is s hs w3 (hg.old g3) HK).mono ?_)
  rintro e w4 ⟨rfl, hO4⟩
  have g4 := g3.trans hO4
  clear g3 hO4
  go_wp2_with fail
  (with_reducible refine (isVar_is s hs w4 (hg.old g4) HK).mono ?_)
  rintro e w5 ⟨rfl, hO5⟩
  have g5 := g4.trans hO5
  clear g4 hO5
  go_wp2_with fail
  (with_reducible refine (isWordL_is s hs w5 (hg.old g5) HK).mono ?_)
  rintro e w6 ⟨rfl, hO6⟩
  have g6 := g5.trans hO6
  clear g5 hO6
  go_wp2_with fail
  (with_reducible refine (kind_is s hs w6 (hg.old g6) HK).mono ?_)
  rintro e w7 ⟨rfl, hO7⟩
  have g7 := g6.trans hO7
  clear g6 hO7
  go_wp2_with fail
  (with_reducible refine (plain_is s hs w7 (hg.old g7) HP).mono ?_)
  rintro e w8 ⟨rfl, hO8⟩
  have g8 := g7.trans hO8
  clear g7 hO8
  go_wp2_with fail
  (with_reducible refine (plainRef_is s hs w8 HP).mono ?_)
  rintro e w9 ⟨rfl, hO9⟩
  have g9 := g8.trans hO9
  clear g8 hO9
  go_wp2
  go_ret
  exact ⟨rfl, g9⟩
end Go.Proofs.YtdchnjijdkgfhaaGreatDoor
