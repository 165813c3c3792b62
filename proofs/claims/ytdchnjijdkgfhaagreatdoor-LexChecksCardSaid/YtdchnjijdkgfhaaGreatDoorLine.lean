/- The line and the column of an index, and the index of a line and a column. -/
import Derived.Test.YtdchnjijdkgfhaaGreatDoorEnds
namespace Lx
def lineOf (l : List B) (k : Nat) : Int := (Go.Lib.countByte (l.take k) 10 : Int) + 1
def colOf (l : List B) (k : Nat) : Int := (k : Int) - Go.Lib.lastIndex (l.take k) [10]
/-- Where the line n (from 0 on) begins. -/
def start : Nat → List B → Option Nat
  | 0, _ => some 0
  | n + 1, l => if Go.Lib.indexByte l 10 < 0 then none else (start n (l.drop ((Go.Lib.indexByte l 10).toNat + 1))).map (· + ((Go.Lib.indexByte l 10).toNat + 1))
/-- How many bytes the line has that begins at an index. -/
def lineLen (l : List B) (s : Nat) : Nat := if Go.Lib.indexByte (l.drop s) 10 < 0 then l.length - s else (Go.Lib.indexByte (l.drop s) 10).toNat
/-- The index of a line and a column, both from 0 on. -/
def atOf (l : List B) (n c : Nat) : Option Nat := match start n l with
  | none => none
  | some s => if lineLen l s < c then none else some (s + c)
end Lx
namespace Go.Proofs.YtdchnjijdkgfhaaGreatDoor
open Go.RowKit

theorem count_le (l : List UInt8) (c : UInt8) : Lib.countByte l c ≤ l.length := List.count_le_length
theorem last_bounds (l sub : List UInt8) : -1 ≤ Lib.lastIndex l sub ∧ Lib.lastIndex l sub ≤ l.length := by
  unfold Lib.lastIndex
  split
  · rcases Lib.lastOcc_spec l sub (l.length - sub.length + 1) with ⟨h, _⟩ | ⟨i, hi, h, _⟩
    · rw [h]; omega
    · rw [h]; omega
  · omega
theorem extract_toList (t : ByteArray) (k : Nat) : (t.extract 0 k).data.toList = t.data.toList.take k := by
  rw [ByteArray.data_extract, Array.toList_extract, List.extract_eq_take_drop, List.drop_zero, Nat.sub_zero]

set_option maxHeartbeats 400000 in
theorem line_bad (t : ByteArray) (at_ : Int) (h : at_ < 0 ∨ (t.size : Int) < at_) (w : World) :
    Calls Tryz.prog 29 #[.string t, .int .i64 at_] w fun e w' => e = .returned (.tuple #[.int .i64 0, .int .i64 0, .int .i64 1]) ∧ Old w w' := by
  by_cases h0 : at_ < 0
  · have h1 : decide (at_ < 0) = true := by simpa using h0
    go_enter Tryz.func29, Tryz.ntmps29
    go_wp2
    refine bodyPost_ret (by simp [results, Tryz.results29, go_sem]) rfl ⟨rfl, Old.refl w⟩
  · have h1 : decide (at_ < 0) = false := by simpa using h0
    have h2 : decide ((t.size : Int) < at_) = true := by simp only [decide_eq_true_eq]; omega
    go_enter Tryz.func29, Tryz.ntmps29
    go_wp2
    refine bodyPost_ret (by simp [results, Tryz.results29, go_sem]) rfl ⟨rfl, Old.refl w⟩

set_option maxHeartbeats 400000 in
theorem line_ok (t : ByteArray) (ht : t.size ≤ 1000000000000) (k : Nat) (hk : k ≤ t.size) (w : World) :
    Calls Tryz.prog 29 #[.string t, .int .i64 k] w fun e w' => e = .returned (.tuple #[.int .i64 (Lx.lineOf t.data.toList k), .int .i64 (Lx.colOf t.data.toList k), .int .i64 0]) ∧ Old w w' := by
  have h1 : decide ((k : Int) < 0) = false := by simp only [decide_eq_false_iff_not]; omega
  have h2 : decide ((t.size : Int) < (k : Int)) = false := by simp only [decide_eq_false_iff_not]; omega
  have hn : ¬ ((t.size : Int) < (k : Int)) := by omega
  have hlen : (t.data.toList.take k).length = k := by rw [List.length_take, Array.length_toList]; have : t.data.size = t.size := rfl; omega
  have hcb := count_le (t.data.toList.take k) 10
  have hlb := last_bounds (t.data.toList.take k) [10]
  rw [hlen] at hcb hlb
  have w1 : wrap64 ((Lib.countByte (t.data.toList.take k) 10 : Int) + 1) = Lx.lineOf t.data.toList k := by unfold Lx.lineOf; exact IntWalk.wrap64_in _ (by omega)
  have w2 : wrap64 ((k : Int) - Lib.lastIndex (t.data.toList.take k) [10]) = Lx.colOf t.data.toList k := by unfold Lx.colOf; exact IntWalk.wrap64_in _ (by omega)
  go_enter Tryz.func29, Tryz.ntmps29
  go_wp2_with fail
  refine (Tryz.strings_Count_one _ 10 w).mono ?_
  rintro e w1 ⟨rfl, rfl⟩
  go_wp2_with fail
  refine (Tryz.strings_LastIndex (t.extract 0 k) ⟨#[10]⟩ (by rw [ByteArray.size_extract]; omega) _).mono ?_
  rintro e w3 ⟨rfl, rfl⟩
  rw [extract_toList]
  go_wp2
  refine bodyPost_ret (v := .tuple #[.int .i64 (Lx.lineOf t.data.toList k), .int .i64 (Lx.colOf t.data.toList k), .int .i64 0]) ?_ rfl ⟨rfl, Old.refl _⟩
  simp [results, Tryz.results29, go_sem, w1, w2]
  exact ⟨rfl, rfl⟩

def atV : Option Nat → Value
  | none => .tuple #[.int .i64 0, .int .i64 1]
  | some k => .tuple #[.int .i64 k, .int .i64 0]

set_option maxHeartbeats 400000 in
theorem at_bad (t : ByteArray) (n c : Int) (h : n < 1 ∨ c < 1) (w : World) :
    Calls Tryz.prog 30 #[.string t, .int .i64 n, .int .i64 c] w fun e w' => e = .returned (atV none) ∧ Old w w' := by
  by_cases h0 : n < 1
  · have h1 : decide (n < 1) = true := by simpa using h0
    clear h h0
    go_enter Tryz.func30, Tryz.ntmps30
    go_wp2
    refine bodyPost_ret (v := atV none) (by simp [results, Tryz.results30, go_sem, atV]) rfl ⟨rfl, Old.refl w⟩
  · have h1 : decide (n < 1) = false := by simpa using h0
    have h2 : decide (c < 1) = true := by simp only [decide_eq_true_eq]; omega
    clear h h0
    go_enter Tryz.func30, Tryz.ntmps30
    go_wp2
    refine bodyPost_ret (v := atV none) (by simp [results, Tryz.results30, go_sem, atV]) rfl ⟨rfl, Old.refl w⟩

theorem index_bounds (l : List UInt8) (c : UInt8) : -1 ≤ Lib.indexByte l c ∧ (0 ≤ Lib.indexByte l c → Lib.indexByte l c < l.length) := by
  refine ⟨Lib.indexByte_ge l c, ?_⟩
  induction l with
  | nil => intro h; simp [Lib.indexByte] at h
  | cons b l ih =>
    intro h
    unfold Lib.indexByte at h ⊢
    split
    · simp only [List.length_cons]; omega
    · rename_i hb
      rw [if_neg hb] at h
      split
      · rename_i hm; rw [if_pos hm] at h; omega
      · rename_i hm
        rw [if_neg hm] at h
        have hge := Lib.indexByte_ge l c
        have : 0 ≤ Lib.indexByte l c := by
          have : Lib.indexByte l c ≠ -1 := by simpa using hm
          omega
        have := ih this
        simp only [List.length_cons]
        omega

theorem step_sums {s k T : Nat} (hk : k + s < T) (hT : T ≤ 1000000000000) : wrap64 ((k : Int) + 1) = ((k + 1 : Nat) : Int) ∧ wrap64 ((s : Int) + ((k + 1 : Nat) : Int)) = ((s + (k + 1) : Nat) : Int) := by
  refine ⟨?_, ?_⟩
  · rw [IntWalk.wrap64_in ((k : Int) + 1) (by omega)]; omega
  · rw [IntWalk.wrap64_in ((s : Int) + ((k + 1 : Nat) : Int)) (by omega)]; omega
theorem down_sum {m : Nat} (hm : m + 1 < 9223372036854775807) : wrap64 ((m : Int) + 1) = (m : Int) + 1 := by
  rw [IntWalk.wrap64_in ((m : Int) + 1) (by omega)]
theorem not_neg (k : Nat) : decide ((k : Int) < 0) = false := by simp only [decide_eq_false_iff_not]; omega

theorem index_nl (s : ByteArray) (w : World) : Calls Tryz.prog 50 #[.string s, .int .u8 10] w fun e w' => e = .returned (.int .i64 (Lib.indexByte s.data.toList 10)) ∧ w' = w := Tryz.strings_IndexByte s 10 w

theorem extract_drop (t : ByteArray) (s : Nat) : (t.extract s t.size).data.toList = t.data.toList.drop s := by
  rw [ByteArray.data_extract, Array.toList_extract, List.extract_eq_take_drop]
  exact List.take_of_length_le (by rw [List.length_drop, Array.length_toList]; exact Nat.le_refl _)

set_option maxRecDepth 100000 in
set_option maxHeartbeats 1000000 in
theorem at_ok (t : ByteArray) (ht : t.size ≤ 1000000000000) (n c : Nat) (hn : n < 9223372036854775807) (hc : c < 9223372036854775807) (w : World) :
    Calls Tryz.prog 30 #[.string t, .int .i64 ((n : Int) + 1), .int .i64 ((c : Int) + 1)] w fun e w' => e = .returned (atV (Lx.atOf t.data.toList n c)) ∧ Old w w' := by
  have h1 : decide ((n : Int) + 1 < 1) = false := by simp only [decide_eq_false_iff_not]; omega
  have h2 : decide ((c : Int) + 1 < 1) = false := by simp only [decide_eq_false_iff_not]; omega
  have hlen : t.data.toList.length = t.size := by rw [Array.length_toList]; rfl
  go_enter Tryz.func30, Tryz.ntmps30
  go_wp2_with fail
  go_loopg [1, 8] n (fun g x y wr => ∃ m s : Nat, g = m ∧ x = .int .i64 ((m : Int) + 1) ∧ y = .int .i64 s ∧ s ≤ t.size ∧ m < 9223372036854775807 ∧ Lx.start n t.data.toList = (Lx.start m (t.data.toList.drop s)).map (· + s) ∧ wr = w)
  case atStart =>
    exact ⟨n, 0, rfl, rfl, rfl, by omega, hn, by simp, rfl⟩
  case round =>
    obtain ⟨m, s, rfl, rfl, rfl, hs, hm, hst, rfl⟩ := hrel
    have HST := Lib.hid hst
    clear hst
    have hb := index_bounds (t.data.toList.drop s) 10
    have hdl : (t.data.toList.drop s).length = t.size - s := by rw [List.length_drop, hlen]
    rw [hdl] at hb
    cases gk with
    | zero =>
      have m0 : decide (1 < ((0 : Nat) : Int) + 1) = false := rfl
      have hat : Lx.atOf t.data.toList n c = if Lx.lineLen t.data.toList s < c then none else some (s + c) := by
        unfold Lx.atOf
        rw [HST.out]
        simp [Lx.start]
      obtain ⟨i, hi⟩ : ∃ i, Lib.indexByte (t.data.toList.drop s) 10 = i := ⟨_, rfl⟩
      rw [hi] at hb
      have hll : Lx.lineLen t.data.toList s = if i < 0 then t.size - s else i.toNat := by unfold Lx.lineLen; rw [hi, hlen]
      obtain ⟨len, hle⟩ : ∃ len : Nat, len = if i < 0 then t.size - s else i.toNat := ⟨_, rfl⟩
      rw [hll, ← hle] at hat
      have HAT := Lib.hid hat
      have HI := Lib.hid hi
      clear hll hat hi HST
      rcases Int.lt_or_le i 0 with hneg | hpos
      · have hi1 : i = -1 := by omega
        rw [if_pos hneg] at hle
        subst hi1
        clear hneg hb
        have w0 : wrap64 ((t.size : Int) - (s : Int)) = (len : Int) := by rw [IntWalk.wrap64_in _ (by omega)]; omega
        go_wp2_with fail
        refine (index_nl _ wr).mono ?_
        rintro e w2 ⟨rfl, rfl⟩
        rw [extract_drop, HI.out]
        by_cases hcl : len < c
        · have hc2 : decide ((len : Int) < (c : Int)) = true := by simp only [decide_eq_true_eq]; omega
          go_wp2
          refine bodyPost_ret (v := atV none) (by simp [results, Tryz.results30, go_sem, atV]) rfl ⟨?_, Old.refl _⟩
          rw [HAT.out, if_pos hcl]
        · have hc2 : decide ((len : Int) < (c : Int)) = false := by simp only [decide_eq_false_iff_not]; omega
          go_wp2
          refine bodyPost_ret (v := atV (some (s + c))) ?_ rfl ⟨?_, Old.refl _⟩
          · simp [results, Tryz.results30, go_sem, atV]
            omega
          · rw [HAT.out, if_neg hcl]
      · obtain ⟨k, rfl⟩ := Int.eq_ofNat_of_zero_le hpos
        rw [if_neg (by omega), Int.toNat_natCast] at hle
        subst hle
        have hk := hb.2 hpos
        have hks : len + s ≤ t.size := by omega
        have k0 := not_neg len
        clear hb hpos hk
        go_wp2_with fail
        refine (index_nl _ wr).mono ?_
        rintro e w2 ⟨rfl, rfl⟩
        rw [extract_drop, HI.out]
        by_cases hcl : len < c
        · have hc2 : decide ((len : Int) < (c : Int)) = true := by simp only [decide_eq_true_eq]; omega
          go_wp2
          refine bodyPost_ret (v := atV none) (by simp [results, Tryz.results30, go_sem, atV]) rfl ⟨?_, Old.refl _⟩
          rw [HAT.out, if_pos hcl]
        · have hc2 : decide ((len : Int) < (c : Int)) = false := by simp only [decide_eq_false_iff_not]; omega
          go_wp2
          refine bodyPost_ret (v := atV (some (s + c))) ?_ rfl ⟨?_, Old.refl _⟩
          · simp [results, Tryz.results30, go_sem, atV]
            omega
          · rw [HAT.out, if_neg hcl]
    | succ m =>
      have m1 : decide (1 < ((m + 1 : Nat) : Int) + 1) = true := by simp only [decide_eq_true_eq]; omega
      have hs0 : ¬ ((t.size : Int) < (s : Int)) := by omega
      obtain ⟨i, hi⟩ : ∃ i, Lib.indexByte (t.data.toList.drop s) 10 = i := ⟨_, rfl⟩
      rw [hi] at hb
      have hst2 : Lx.start (m + 1) (t.data.toList.drop s) = if i < 0 then none else (Lx.start m (t.data.toList.drop (s + (i.toNat + 1)))).map (· + (i.toNat + 1)) := by
        rw [Lx.start, hi, List.drop_drop]
      have HI := Lib.hid hi
      have HS2 := Lib.hid hst2
      clear hi hst2
      go_wp2_with fail
      refine (index_nl _ wr).mono ?_
      rintro e w2 ⟨rfl, rfl⟩
      rw [extract_drop, HI.out]
      rcases Int.lt_or_le i 0 with hneg | hpos
      · have hi1 : i = -1 := by omega
        subst hi1
        clear hneg hb m1 hs0
        go_wp2
        refine bodyPost_ret (v := atV none) (by simp [results, Tryz.results30, go_sem, atV]) rfl ⟨?_, Old.refl _⟩
        unfold Lx.atOf
        rw [HST.out, HS2.out, if_pos (by decide), Option.map_none]
      · obtain ⟨k, rfl⟩ := Int.eq_ofNat_of_zero_le hpos
        have hk := hb.2 hpos
        clear hb hpos
        have hkT : k + s < t.size := by omega
        have k0 := not_neg k
        obtain ⟨q1, q2⟩ := step_sums hkT ht
        have q3 := down_sum hm
        obtain ⟨k1, hk1⟩ : ∃ k1, k1 = k + 1 := ⟨_, rfl⟩
        rw [← hk1] at q1 q2
        obtain ⟨s1, hs1⟩ : ∃ s1, s1 = s + k1 := ⟨_, rfl⟩
        rw [← hs1] at q2
        have HK1 := Lib.hid hk1
        have HS1 := Lib.hid hs1
        have HLE := Lib.hid (show s1 ≤ t.size by rw [hs1, hk1]; omega)
        have HM := Lib.hid hm
        clear hk1 hs1 hk hs hm m1 hs0 hn hc ht hlen h1 h2 hkT
        go_wp2
        go_roundg m
        case measure => exact Nat.lt_succ_self m
        case rel =>
          refine ⟨m, s1, rfl, by rw [q3], by rw [q2], HLE.out, by have := HM.out; omega, ?_, rfl⟩
          rw [HST.out, HS2.out, if_neg (by omega), Option.map_map, HS1.out, HK1.out]
          simp only [Int.toNat_natCast]
          congr 1
          funext x
          simp only [Function.comp]
          omega
end Go.Proofs.YtdchnjijdkgfhaaGreatDoor
