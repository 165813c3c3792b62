/- LexPlaces, walked. -/
import Derived.Test.YtpbppmphcnhlcaaDoorRef
namespace Go.Proofs.YtpbppmphcnhlcaaDoor
open Go.RowKit

/-- A line and a column, or an error, whatever integer the index is. -/
def lineI (l : List UInt8) (a : Int) : Int × Int × Int := if a < 0 ∨ (l.length : Int) < a then (0, 0, 1) else (Lx.lineOf l a.toNat, Lx.colOf l a.toNat, 0)

theorem line_any (t : ByteArray) (ht : t.size ≤ 5000) (a : Int) (w : World) {x y z : Int} (h : lineI t.data.toList a = (x, y, z)) :
    Calls Tryd.prog 16 #[.string t, .int .i64 a] w fun e w' => e = .returned (.tuple #[.int .i64 x, .int .i64 y, .int .i64 z]) ∧ Old w w' := by
  have hlen : t.data.toList.length = t.size := by rw [Array.length_toList]; rfl
  unfold lineI at h
  rw [hlen] at h
  by_cases hb : a < 0 ∨ (t.size : Int) < a
  · rw [if_pos hb] at h
    cases h
    exact line_bad t a hb w
  · rw [if_neg hb] at h
    cases h
    have := line_ok t (by omega) a.toNat (by omega) w
    rwa [show (a.toNat : Int) = a from by omega] at this
theorem refLine_any (t : ByteArray) (ht : t.size ≤ 5000) (a : Int) (w : World) {x y z : Int} (h : lineI t.data.toList a = (x, y, z)) :
    Calls Tryd.prog 17 #[.string t, .int .i64 a] w fun e w' => e = .returned (.agg #[.int .i64 x, .int .i64 y, .int .i64 z]) ∧ Old w w' := by
  have hlen : t.data.toList.length = t.size := by rw [Array.length_toList]; rfl
  unfold lineI at h
  rw [hlen] at h
  by_cases hb : a < 0 ∨ (t.size : Int) < a
  · rw [if_pos hb] at h
    cases h
    exact refLine_bad t a hb w
  · rw [if_neg hb] at h
    cases h
    have := refLine_ok t ht a.toNat (by omega) w
    rwa [show (a.toNat : Int) = a from by omega] at this

set_option maxRecDepth 100000 in
set_option maxHeartbeats 4000000 in
theorem lexPlaces_any (t : ByteArray) (a c : Int) (ha : a ≤ 9223372036854775807) (hc : c ≤ 9223372036854775807) (w : World) (hg : Gl w) :
    Calls Tryd.prog 4 #[.string t, .int .i64 a, .int .i64 c] w fun e w' => e = .returned (.bool true) ∧ Old w w' := by
  by_cases hbig : 5000 < t.size
  · have hd : decide ((5000 : Int) < (t.size : Int)) = true := by simp only [decide_eq_true_eq]; omega
    have hd2 : decide (5000 < t.size) = true := by simp only [decide_eq_true_eq]; omega
    have hsl : ¬ ((t.size : Int) < 5000) := by omega
    have hs5 : (t.extract 0 5000).size ≤ 5000 := by rw [ByteArray.size_extract]; omega
    obtain ⟨s, hs⟩ : ∃ s, t.extract 0 5000 = s := ⟨_, rfl⟩
    rw [hs] at hs5
    obtain ⟨x, y, z, hl⟩ : ∃ x y z, lineI s.data.toList a = (x, y, z) := ⟨_, _, _, rfl⟩
    obtain ⟨r, hr⟩ : ∃ r, Lx.atI s.data.toList a c = r := ⟨_, rfl⟩
    go_enter Tryd.func4, Tryd.ntmps4
    go_wp2_with fail
    refine (sane_any w hg).mono ?_
    rintro e w1 ⟨rfl, hO⟩
    go_wp2_with fail
    refine (line_any s hs5 a w1 hl).mono ?_
    rintro e w2 ⟨rfl, hO2⟩
    have hO' := hO.trans hO2
    clear hO hO2
    go_wp2_with fail
    refine (refLine_any s hs5 a w2 hl).mono ?_
    rintro e w3 ⟨rfl, hO3⟩
    have hO3' := hO'.trans hO3
    clear hO' hO3
    go_wp2_with fail
    refine (at_any s (Nat.le_trans hs5 (by decide)) a c ha hc _).mono ?_
    rintro e w4 ⟨rfl, hO4⟩
    rw [hr]
    have hO4' := (hO3'.alloc _).trans hO4
    have kb := (Blk.new' (b := w3.heap.size) rfl #[.int .i64 x, .int .i64 y, .int .i64 z] 31).keep hO4 (by simp)
    clear hO3' hO4
    cases r with
    | none =>
      unfold atV
      go_wp2_with fail
      refine (refAt_any s hs5 a c _).mono ?_
      rintro e w5 ⟨rfl, hO5⟩
      rw [hr]
      unfold atV
      have hO5' := hO4'.trans hO5
      have kb5 := kb.keep hO5 (by simp)
      have x0 := kb5.cell (i := 0) (v := .int .i64 x) rfl
      have x1 := kb5.cell (i := 1) (v := .int .i64 y) rfl
      have x2 := kb5.cell (i := 2) (v := .int .i64 z) rfl
      clear hO4' hO5
      go_wp2_with fail
      go_ret
      exact ⟨rfl, hO5'⟩
    | some k =>
      unfold atV
      go_wp2_with fail
      refine (refAt_any s hs5 a c _).mono ?_
      rintro e w5 ⟨rfl, hO5⟩
      rw [hr]
      unfold atV
      have hO5' := hO4'.trans hO5
      have kb5 := kb.keep hO5 (by simp)
      have x0 := kb5.cell (i := 0) (v := .int .i64 x) rfl
      have x1 := kb5.cell (i := 1) (v := .int .i64 y) rfl
      have x2 := kb5.cell (i := 2) (v := .int .i64 z) rfl
      clear hO4' hO5
      go_wp2_with fail
      go_ret
      exact ⟨rfl, hO5'⟩
  · have hd : decide ((5000 : Int) < (t.size : Int)) = false := by simp only [decide_eq_false_iff_not]; omega
    have hd2 : decide (5000 < t.size) = false := by simp only [decide_eq_false_iff_not]; omega
    have hs5 : t.size ≤ 5000 := by omega
    obtain ⟨x, y, z, hl⟩ : ∃ x y z, lineI t.data.toList a = (x, y, z) := ⟨_, _, _, rfl⟩
    obtain ⟨r, hr⟩ : ∃ r, Lx.atI t.data.toList a c = r := ⟨_, rfl⟩
    clear hbig
    go_enter Tryd.func4, Tryd.ntmps4
    go_wp2_with fail
    refine (sane_any w hg).mono ?_
    rintro e w1 ⟨rfl, hO⟩
    go_wp2_with fail
    refine (line_any t hs5 a w1 hl).mono ?_
    rintro e w2 ⟨rfl, hO2⟩
    have hO' := hO.trans hO2
    clear hO hO2
    go_wp2_with fail
    refine (refLine_any t hs5 a w2 hl).mono ?_
    rintro e w3 ⟨rfl, hO3⟩
    have hO3' := hO'.trans hO3
    clear hO' hO3
    go_wp2_with fail
    refine (at_any t (Nat.le_trans hs5 (by decide)) a c ha hc _).mono ?_
    rintro e w4 ⟨rfl, hO4⟩
    rw [hr]
    have hO4' := (hO3'.alloc _).trans hO4
    have kb := (Blk.new' (b := w3.heap.size) rfl #[.int .i64 x, .int .i64 y, .int .i64 z] 31).keep hO4 (by simp)
    clear hO3' hO4
    cases r with
    | none =>
      unfold atV
      go_wp2_with fail
      refine (refAt_any t hs5 a c _).mono ?_
      rintro e w5 ⟨rfl, hO5⟩
      rw [hr]
      unfold atV
      have hO5' := hO4'.trans hO5
      have kb5 := kb.keep hO5 (by simp)
      have x0 := kb5.cell (i := 0) (v := .int .i64 x) rfl
      have x1 := kb5.cell (i := 1) (v := .int .i64 y) rfl
      have x2 := kb5.cell (i := 2) (v := .int .i64 z) rfl
      clear hO4' hO5
      go_wp2_with fail
      go_ret
      exact ⟨rfl, hO5'⟩
    | some k =>
      unfold atV
      go_wp2_with fail
      refine (refAt_any t hs5 a c _).mono ?_
      rintro e w5 ⟨rfl, hO5⟩
      rw [hr]
      unfold atV
      have hO5' := hO4'.trans hO5
      have kb5 := kb.keep hO5 (by simp)
      have x0 := kb5.cell (i := 0) (v := .int .i64 x) rfl
      have x1 := kb5.cell (i := 1) (v := .int .i64 y) rfl
      have x2 := kb5.cell (i := 2) (v := .int .i64 z) rfl
      clear hO4' hO5
      go_wp2_with fail
      go_ret
      exact ⟨rfl, hO5'⟩
end Go.Proofs.YtpbppmphcnhlcaaDoor
