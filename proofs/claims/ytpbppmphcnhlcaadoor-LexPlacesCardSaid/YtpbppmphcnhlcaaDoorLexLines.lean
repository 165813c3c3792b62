/- LexLines, walked. -/
import Derived.Test.YtpbppmphcnhlcaaDoorSaneAll
import Derived.Test.YtpbppmphcnhlcaaDoorLinesPure
namespace Go.Proofs.YtpbppmphcnhlcaaDoor
open Go.RowKit

set_option maxHeartbeats 400000 in
theorem mod_any (n : Int) (m : Nat) (hm : 0 < m) (hm2 : m ≤ 1000000) (w : World) :
    Calls Tryd.prog 26 #[.int .i64 n, .int .i64 m] w fun e w' => ∃ a : Nat, a < m ∧ e = .returned (.int .i64 a) ∧ Old w w' := by
  have hne : ¬ ((m : Int) = 0) := by omega
  have hne' : ((m : Int) == 0) = false := beq_eq_false_iff_ne.2 hne
  go_enter Tryd.func26, Tryd.ntmps26
  have hb1 := Int.tmod_lt_of_pos n (show (0 : Int) < m by omega)
  have hb2 := Int.lt_tmod_of_pos n (show (0 : Int) < m by omega)
  have HB := Lib.hid (And.intro hb1 hb2)
  clear hb1 hb2
  by_cases h : n.tmod m < 0
  · have hd : decide (n.tmod m < 0) = true := by simpa using h
    obtain ⟨a, ha⟩ : ∃ a : Nat, n.tmod m + m = a := ⟨(n.tmod m + m).toNat, by rw [Int.toNat_of_nonneg]; have := HB.out; omega⟩
    have hw : wrap64 (n.tmod m + m) = (a : Int) := by rw [IntWalk.wrap64_in _ (by have := HB.out; omega)]; exact ha
    have HAM := Lib.hid (show a < m by omega)
    clear h ha
    go_wp2
    go_ret
    exact ⟨a, HAM.out, by rw [← hw]; rfl, Old.refl w⟩
  · have hd : decide (n.tmod m < 0) = false := by simpa using h
    have H := Lib.hid h
    clear h
    go_wp2
    go_ret
    have := HB.out
    have := H.out
    exact ⟨(n.tmod m).toNat, by omega, by rw [Int.toNat_of_nonneg (by omega)]; rfl, Old.refl w⟩
theorem mod_succ (n : Int) (m : Nat) (hm2 : m ≤ 900000) (w : World) :
    Calls Tryd.prog 26 #[.int .i64 n, .int .i64 ((m : Int) + 1)] w fun e w' => ∃ a : Nat, a ≤ m ∧ e = .returned (.int .i64 a) ∧ Old w w' := by
  refine (mod_any n (m + 1) (by omega) (by omega) w).mono ?_
  rintro e w' ⟨a, h1, h2⟩
  exact ⟨a, by omega, h2⟩

theorem line_at (t : ByteArray) (ht : t.size ≤ 5000) (k : Nat) (hk : k ≤ t.size) : ∃ n c : Nat, n < 1000000 ∧ c < 1000000 ∧ Lx.lineOf t.data.toList k = (n : Int) + 1 ∧ Lx.colOf t.data.toList k = (c : Int) + 1 ∧ Lx.atOf t.data.toList n c = some k := by
  have hlen : t.data.toList.length = t.size := by rw [Array.length_toList]; rfl
  obtain ⟨n, c, h1, h2, h3⟩ := Lx.at_line _ t.data.toList (Nat.le_refl _) k (by omega)
  have hb := count_le (t.data.toList.take k) 10
  have hl := last_bounds (t.data.toList.take k) [10]
  have hk' : (t.data.toList.take k).length = k := by rw [List.length_take, hlen]; omega
  rw [hk'] at hb hl
  refine ⟨n, c, ?_, ?_, h1, h2, h3⟩
  · unfold Lx.lineOf at h1; omega
  · unfold Lx.colOf at h2; omega

set_option maxRecDepth 100000 in
set_option maxHeartbeats 4000000 in
theorem lexLines_any (t : ByteArray) (i j : Int) (w : World) (hg : Gl w) :
    Calls Tryd.prog 9 #[.string t, .int .i64 i, .int .i64 j] w fun e w' => e = .returned (.bool true) ∧ Old w w' := by
  by_cases hbig : 5000 < t.size
  · have hd : decide ((5000 : Int) < (t.size : Int)) = true := by simp only [decide_eq_true_eq]; omega
    go_enter Tryd.func9, Tryd.ntmps9
    go_wp2_with fail
    refine (sane_any w hg).mono ?_
    rintro e w1 ⟨rfl, hO⟩
    clear hbig
    go_wp2
    go_ret
    exact ⟨rfl, hO⟩
  · have hd : decide ((5000 : Int) < (t.size : Int)) = false := by simp only [decide_eq_false_iff_not]; omega
    have hsz := Lib.hid (show t.size ≤ 5000 by omega)
    have hwz : wrap64 ((t.size : Int) + 1) = ((t.size + 1 : Nat) : Int) := by rw [IntWalk.wrap64_in _ (by omega)]; omega
    go_enter Tryd.func9, Tryd.ntmps9
    go_wp2_with fail
    refine (sane_any w hg).mono ?_
    rintro e w1 ⟨rfl, hO⟩
    clear hbig
    go_wp2_with fail
    refine (mod_succ i t.size (by have := hsz.out; omega) w1).mono ?_
    rintro e w2 ⟨a, ha, rfl, hO2⟩
    have HA := Lib.hid ha
    have hO' := hO.trans hO2
    clear ha hO hO2
    go_wp2_with fail
    refine (mod_succ j t.size (by have := hsz.out; omega) w2).mono ?_
    rintro e w3 ⟨b, hb, rfl, hO3⟩
    have HBB := Lib.hid hb
    have hO3' := hO'.trans hO3
    clear hb hO' hO3
    go_wp2_with fail
    refine (line_ok t (by have := hsz.out; omega) a HA.out w3).mono ?_
    rintro e w4 ⟨rfl, hO4⟩
    have hO4' := hO3'.trans hO4
    clear hO3' hO4
    go_wp2_with fail
    refine (line_ok t (by have := hsz.out; omega) b HBB.out w4).mono ?_
    rintro e w5 ⟨rfl, hO5⟩
    have hO5' := hO4'.trans hO5
    clear hO4' hO5
    obtain ⟨n, c, hn, hc, e1, e2, e3⟩ := line_at t hsz.out a HA.out
    have hmono : Hid (a < b → Lx.lineOf t.data.toList a < Lx.lineOf t.data.toList b ∨ Lx.lineOf t.data.toList a = Lx.lineOf t.data.toList b ∧ Lx.colOf t.data.toList a < Lx.colOf t.data.toList b) :=
      Lib.hid (fun hab => Lx.line_mono _ t.data.toList (Nat.le_refl _) a b hab (by have := HBB.out; rw [Array.length_toList]; exact this))
    obtain ⟨lb, hlb⟩ : ∃ lb, Lx.lineOf t.data.toList b = lb := ⟨_, rfl⟩
    obtain ⟨cb, hcb⟩ : ∃ cb, Lx.colOf t.data.toList b = cb := ⟨_, rfl⟩
    rw [e1, e2, hlb, hcb] at hmono
    rw [e1, e2, hlb, hcb]
    have HN := Lib.hid (And.intro hn hc)
    have HE := Lib.hid e3
    clear e1 e2 e3 hlb hcb hn hc
    go_wp2_with fail
    refine (at_ok t (by have := hsz.out; omega) n c (by have := HN.out; omega) (by have := HN.out; omega) w5).mono ?_
    rintro e w6 ⟨rfl, hO6⟩
    have hO6' := hO5'.trans hO6
    clear hO5' hO6
    rw [HE.out]
    unfold atV
    by_cases hab : a < b
    · have hm := hmono.out hab
      have hge : decide (b ≤ a) = false := by simp only [decide_eq_false_iff_not]; omega
      clear hmono hab
      rcases hm with hm | ⟨hm, hm2⟩
      · have hd1 : decide ((n : Int) + 1 < lb) = true := by simpa using hm
        clear hm
        go_wp2
        go_ret
        exact ⟨rfl, hO6'⟩
      · subst hm
        have hd1 : decide ((n : Int) + 1 < (n : Int) + 1) = false := by simp
        have hd2 : decide ((c : Int) + 1 < cb) = true := by simpa using hm2
        clear hm2
        go_wp2
        go_ret
        exact ⟨rfl, hO6'⟩
    · have hge : decide (b ≤ a) = true := by simp only [decide_eq_true_eq]; omega
      clear hab hmono
      go_wp2
      go_ret
      exact ⟨rfl, hO6'⟩
end Go.Proofs.YtpbppmphcnhlcaaDoor
