/- The reference's kind of a text. -/
import Derived.Test.YtdchnjijdkgfhaaGreatDoorRefReader
import Derived.Test.YtdchnjijdkgfhaaGreatDoorJoinPure
namespace Lx
theorem whole_short {l : List B} {k n : Int} (h : whole l = some (k, n)) : l.length ≤ 24 := tok_len (t := ⟨k, n, l⟩) (whole_iff.1 h)
theorem kind_long {l : List B} (h : 100 < l.length) : kind l = 0 := by
  unfold kind
  cases hw : whole l with
  | none => rfl
  | some x => obtain ⟨k, n⟩ := x; have := whole_short hw; omega
theorem next_at_space {l : List B} (h : space (peek l 0) = true) : next l = .err 11 := by
  have h' : peek l 0 = 9 ∨ peek l 0 = 10 ∨ peek l 0 = 13 ∨ peek l 0 = 32 := by
    simp only [space, Bool.or_eq_true, decide_eq_true_eq] at h
    rcases h with ((h | h) | h) | h
    · exact .inl (UInt8.toNat_inj.1 h)
    · exact .inr (.inl (UInt8.toNat_inj.1 h))
    · exact .inr (.inr (.inl (UInt8.toNat_inj.1 h)))
    · exact .inr (.inr (.inr (UInt8.toNat_inj.1 h)))
  have ha : (small (peek l 0) || capital (peek l 0)) = false := by rcases h' with h | h | h | h <;> (rw [h]; decide)
  rw [next_sign ha (by rcases h' with h | h | h | h <;> (rw [h]; rintro ⟨e, _⟩; exact absurd e (by decide))) (by rcases h' with h | h | h | h <;> (rw [h]; decide)),
    if_neg (by rcases h' with h | h | h | h <;> (rw [h]; rintro ⟨e, _⟩; exact absurd e (by decide))), if_neg (by rcases h' with h | h | h | h <;> (rw [h]; decide))]
theorem kind_space {l : List B} (h : space (peek l 0) = true) : kind l = 0 := by
  unfold kind whole
  rw [next_at_space h]
theorem kind_comment {l : List B} (h0 : peek l 0 = 40) (h1 : peek l 1 = 42) : kind l = 0 := by
  have hl : 1 < l.length := peek_in_len (by rw [h1]; decide)
  unfold kind whole
  rw [next_sign (by rw [h0]; decide) (by rw [h0]; rintro ⟨e, _⟩; exact absurd e (by decide)) (by rw [h0]; decide), if_neg (by rw [h0]; rintro ⟨e, _⟩; exact absurd e (by decide)), if_pos (by rw [h0]; decide)]
  simp only
  rw [if_neg (by omega)]
theorem kind_err {l : List B} {x : Int} (h : next l = .err x) : kind l = 0 := by
  unfold kind whole
  rw [h]
theorem kind_part {l : List B} {k n : Int} {j : Nat} (h : next l = .tok k n j) (hj : j < l.length) : kind l = 0 := by
  unfold kind whole
  rw [h]
  simp only
  rw [if_neg (by omega)]
theorem kind_tok {l : List B} {k n : Int} {j : Nat} (h : next l = .tok k n j) (hj : l.length ≤ j) : kind l = k := by
  unfold kind whole
  rw [h]
  simp only
  rw [if_pos hj]
theorem next_err0 {l : List B} : next l ≠ .err 0 := by
  unfold next
  simp only
  split
  · unfold nextName; simp only; split
    · simp
    · split
      · simp
      · split <;> simp
  · split
    · unfold nextVar; simp only; split <;> simp
    · split
      · unfold nextNum; simp only; split
        · simp
        · split <;> simp
      · split
        · simp
        · split <;> simp
end Lx
namespace Go.Proofs.YtdchnjijdkgfhaaGreatDoor
open Go.RowKit

theorem spaceR_is {c : UInt8} {v : Bool} (hv : Hid (Lx.space c = v)) (w : World) :
    Calls Tryz.prog 35 #[.int .u8 c.toNat] w fun e w' => e = .returned (.bool v) ∧ w' = w := by
  have h := spaceR_any c w
  rw [hv.out] at h
  exact h
theorem readV_err (s : ByteArray) (x : Int) : readV s 0 (.err x) = .tuple #[.agg #[.int .i64 0, .int .i64 0, .string ⟨#[]⟩, .int .i64 0], .int .i64 x] := rfl
theorem readV_tok {s X : ByteArray} {k n : Int} {j : Nat} (hX : Hid (s.extract 0 (0 + j) = X)) : readV s 0 (.tok k n j) = .tuple #[.agg #[.int .i64 k, .int .i64 n, .string X, .int .i64 0], .int .i64 0] := by
  rw [← hX.out]
  rfl
theorem readR_is (s : ByteArray) (hs : s.size ≤ 140737488355328) (hi : 0 < s.size) {x : Lx.Next} (hx : Hid (Lx.next (rest s 0) = x)) (w : World) :
    Calls Tryz.prog 37 #[.string s, .int .i64 0] w fun e w' => e = .returned (readV s 0 x) ∧ Old w w' := by
  have h := readR_any s hs 0 hi w
  rw [hx.out] at h
  exact h

set_option maxRecDepth 100000 in
set_option maxHeartbeats 1000000 in
theorem kindR_empty (s : ByteArray) (hs : s.size ≤ 140737488355328) (h0 : s.size = 0) (w : World) :
    Calls Tryz.prog 20 #[.string s] w fun e w' => e = .returned (.int .i64 0) ∧ Old w w' := by
  have h1 : ((s.size : Int) == 0) = true := by rw [h0]; rfl
  go_enter Tryz.func20, Tryz.ntmps20
  go_wp2
  go_ret
  exact ⟨rfl, Old.refl w⟩

set_option maxRecDepth 100000 in
set_option maxHeartbeats 1000000 in
theorem kindR_long (s : ByteArray) (hs : s.size ≤ 140737488355328) (h0 : 100 < s.size) (w : World) :
    Calls Tryz.prog 20 #[.string s] w fun e w' => e = .returned (.int .i64 0) ∧ Old w w' := by
  have h1 : ((s.size : Int) == 0) = false := by rw [beq_eq_false_iff_ne]; omega
  have h2 : decide ((100 : Int) < (s.size : Int)) = true := by simp only [decide_eq_true_eq]; omega
  have h3 : (100 : Int) < (s.size : Int) := by omega
  go_enter Tryz.func20, Tryz.ntmps20
  go_wp2
  go_ret
  exact ⟨rfl, Old.refl w⟩

set_option maxRecDepth 100000 in
set_option maxHeartbeats 1000000 in
theorem kindR_space (s : ByteArray) (hs : s.size ≤ 140737488355328) (h0 : 0 < s.size) (h100 : s.size ≤ 100) (hsp : Hid (Lx.space s[0] = true)) (w : World) :
    Calls Tryz.prog 20 #[.string s] w fun e w' => e = .returned (.int .i64 0) ∧ Old w w' := by
  have h1 : ((s.size : Int) == 0) = false := by rw [beq_eq_false_iff_ne]; omega
  have h2 : decide ((100 : Int) < (s.size : Int)) = false := by simp only [decide_eq_false_iff_not]; omega
  have h3 : (s.size : Int) ≤ 100 := by omega
  have hlt : (0 : Int) < (s.size : Int) := by omega
  go_enter Tryz.func20, Tryz.ntmps20
  go_wp2_with fail
  refine (spaceR_is hsp _).mono ?_
  rintro e w1 ⟨rfl, rfl⟩
  go_wp2
  go_ret
  exact ⟨rfl, Old.refl _⟩

set_option maxRecDepth 100000 in
set_option maxHeartbeats 1000000 in
theorem kindR_comment (s : ByteArray) (hs : s.size ≤ 140737488355328) (h0 : 0 < s.size) (h100 : s.size ≤ 100) (hsp : Hid (Lx.space s[0] = false)) (h2s : 1 < s.size) (hq : ((s.extract 0 2).toList == ([40, 42] : List UInt8)) = true) (w : World) :
    Calls Tryz.prog 20 #[.string s] w fun e w' => e = .returned (.int .i64 0) ∧ Old w w' := by
  have h1 : ((s.size : Int) == 0) = false := by rw [beq_eq_false_iff_ne]; omega
  have h2 : decide ((100 : Int) < (s.size : Int)) = false := by simp only [decide_eq_false_iff_not]; omega
  have h3 : (s.size : Int) ≤ 100 := by omega
  have hlt : (0 : Int) < (s.size : Int) := by omega
  have h4 : decide ((1 : Int) < (s.size : Int)) = true := by simp only [decide_eq_true_eq]; omega
  have h5 : (1 : Int) < (s.size : Int) := by omega
  have h6 : (2 : Int) ≤ (s.size : Int) := by omega
  go_enter Tryz.func20, Tryz.ntmps20
  go_wp2_with fail
  refine (spaceR_is hsp _).mono ?_
  rintro e w1 ⟨rfl, rfl⟩
  go_wp2
  go_ret
  exact ⟨rfl, Old.refl _⟩

set_option maxRecDepth 100000 in
set_option maxHeartbeats 1000000 in
theorem kindR_one_err (s : ByteArray) (hs : s.size ≤ 140737488355328) (h0 : 0 < s.size) (h100 : s.size ≤ 100) (hsp : Hid (Lx.space s[0] = false)) (h2s : s.size ≤ 1) (x : Int) (hx0 : (x == 0) = false) (hN : Hid (Lx.next (rest s 0) = .err x)) (w : World) :
    Calls Tryz.prog 20 #[.string s] w fun e w' => e = .returned (.int .i64 0) ∧ Old w w' := by
  have h1 : ((s.size : Int) == 0) = false := by rw [beq_eq_false_iff_ne]; omega
  have h2 : decide ((100 : Int) < (s.size : Int)) = false := by simp only [decide_eq_false_iff_not]; omega
  have h3 : (s.size : Int) ≤ 100 := by omega
  have hlt : (0 : Int) < (s.size : Int) := by omega
  have h4 : decide ((1 : Int) < (s.size : Int)) = false := by simp only [decide_eq_false_iff_not]; omega
  have h5 : (s.size : Int) ≤ 1 := by omega
  go_enter Tryz.func20, Tryz.ntmps20
  go_wp2_with fail
  refine (spaceR_is hsp _).mono ?_
  rintro e w1 ⟨rfl, rfl⟩
  go_wp2_with fail
  (with_reducible refine (readR_is s hs h0 hN _).mono ?_)
  rw [readV_err]
  rintro e w1 ⟨rfl, hO⟩
  have k1 := Blk.new' (w := w1) (b := w1.heap.size) rfl #[.int .i64 0, .int .i64 0, .string ⟨#[]⟩, .int .i64 0] 41
  obtain ⟨c0, c1, c2, c3, g0, g1, g2, g3⟩ := k1.four
  go_wp2
  go_ret
  first | exact ⟨rfl, hO.alloc _⟩ | exact ⟨rfl, (hO.alloc _).set4 hO.size _ _ _ _⟩

set_option maxRecDepth 100000 in
set_option maxHeartbeats 1000000 in
theorem kindR_one_part (s : ByteArray) (hs : s.size ≤ 140737488355328) (h0 : 0 < s.size) (h100 : s.size ≤ 100) (hsp : Hid (Lx.space s[0] = false)) (h2s : s.size ≤ 1) (k n : Int) (j : Nat) (X : ByteArray) (hX : Hid (s.extract 0 (0 + j) = X)) (hXs : ((X.size : Int) == (s.size : Int)) = false) (hN : Hid (Lx.next (rest s 0) = .tok k n j)) (w : World) :
    Calls Tryz.prog 20 #[.string s] w fun e w' => e = .returned (.int .i64 0) ∧ Old w w' := by
  have h1 : ((s.size : Int) == 0) = false := by rw [beq_eq_false_iff_ne]; omega
  have h2 : decide ((100 : Int) < (s.size : Int)) = false := by simp only [decide_eq_false_iff_not]; omega
  have h3 : (s.size : Int) ≤ 100 := by omega
  have hlt : (0 : Int) < (s.size : Int) := by omega
  have h4 : decide ((1 : Int) < (s.size : Int)) = false := by simp only [decide_eq_false_iff_not]; omega
  have h5 : (s.size : Int) ≤ 1 := by omega
  go_enter Tryz.func20, Tryz.ntmps20
  go_wp2_with fail
  refine (spaceR_is hsp _).mono ?_
  rintro e w1 ⟨rfl, rfl⟩
  go_wp2_with fail
  (with_reducible refine (readR_is s hs h0 hN _).mono ?_)
  rw [readV_tok hX]
  rintro e w1 ⟨rfl, hO⟩
  have k1 := Blk.new' (w := w1) (b := w1.heap.size) rfl #[.int .i64 0, .int .i64 0, .string ⟨#[]⟩, .int .i64 0] 41
  obtain ⟨c0, c1, c2, c3, g0, g1, g2, g3⟩ := k1.four
  go_wp2
  go_ret
  first | exact ⟨rfl, hO.alloc _⟩ | exact ⟨rfl, (hO.alloc _).set4 hO.size _ _ _ _⟩

set_option maxRecDepth 100000 in
set_option maxHeartbeats 1000000 in
theorem kindR_one_tok (s : ByteArray) (hs : s.size ≤ 140737488355328) (h0 : 0 < s.size) (h100 : s.size ≤ 100) (hsp : Hid (Lx.space s[0] = false)) (h2s : s.size ≤ 1) (k n : Int) (j : Nat) (X : ByteArray) (hX : Hid (s.extract 0 (0 + j) = X)) (hXs : ((X.size : Int) == (s.size : Int)) = true) (hN : Hid (Lx.next (rest s 0) = .tok k n j)) (w : World) :
    Calls Tryz.prog 20 #[.string s] w fun e w' => e = .returned (.int .i64 k) ∧ Old w w' := by
  have h1 : ((s.size : Int) == 0) = false := by rw [beq_eq_false_iff_ne]; omega
  have h2 : decide ((100 : Int) < (s.size : Int)) = false := by simp only [decide_eq_false_iff_not]; omega
  have h3 : (s.size : Int) ≤ 100 := by omega
  have hlt : (0 : Int) < (s.size : Int) := by omega
  have h4 : decide ((1 : Int) < (s.size : Int)) = false := by simp only [decide_eq_false_iff_not]; omega
  have h5 : (s.size : Int) ≤ 1 := by omega
  go_enter Tryz.func20, Tryz.ntmps20
  go_wp2_with fail
  refine (spaceR_is hsp _).mono ?_
  rintro e w1 ⟨rfl, rfl⟩
  go_wp2_with fail
  (with_reducible refine (readR_is s hs h0 hN _).mono ?_)
  rw [readV_tok hX]
  rintro e w1 ⟨rfl, hO⟩
  have k1 := Blk.new' (w := w1) (b := w1.heap.size) rfl #[.int .i64 0, .int .i64 0, .string ⟨#[]⟩, .int .i64 0] 41
  obtain ⟨c0, c1, c2, c3, g0, g1, g2, g3⟩ := k1.four
  go_wp2
  go_ret
  first | exact ⟨rfl, hO.alloc _⟩ | exact ⟨rfl, (hO.alloc _).set4 hO.size _ _ _ _⟩

set_option maxRecDepth 100000 in
set_option maxHeartbeats 1000000 in
theorem kindR_two_err (s : ByteArray) (hs : s.size ≤ 140737488355328) (h0 : 0 < s.size) (h100 : s.size ≤ 100) (hsp : Hid (Lx.space s[0] = false)) (h2s : 1 < s.size) (hq : ((s.extract 0 2).toList == ([40, 42] : List UInt8)) = false) (x : Int) (hx0 : (x == 0) = false) (hN : Hid (Lx.next (rest s 0) = .err x)) (w : World) :
    Calls Tryz.prog 20 #[.string s] w fun e w' => e = .returned (.int .i64 0) ∧ Old w w' := by
  have h1 : ((s.size : Int) == 0) = false := by rw [beq_eq_false_iff_ne]; omega
  have h2 : decide ((100 : Int) < (s.size : Int)) = false := by simp only [decide_eq_false_iff_not]; omega
  have h3 : (s.size : Int) ≤ 100 := by omega
  have hlt : (0 : Int) < (s.size : Int) := by omega
  have h4 : decide ((1 : Int) < (s.size : Int)) = true := by simp only [decide_eq_true_eq]; omega
  have h5 : (1 : Int) < (s.size : Int) := by omega
  have h6 : (2 : Int) ≤ (s.size : Int) := by omega
  go_enter Tryz.func20, Tryz.ntmps20
  go_wp2_with fail
  refine (spaceR_is hsp _).mono ?_
  rintro e w1 ⟨rfl, rfl⟩
  go_wp2_with fail
  (with_reducible refine (readR_is s hs h0 hN _).mono ?_)
  rw [readV_err]
  rintro e w1 ⟨rfl, hO⟩
  have k1 := Blk.new' (w := w1) (b := w1.heap.size) rfl #[.int .i64 0, .int .i64 0, .string ⟨#[]⟩, .int .i64 0] 41
  obtain ⟨c0, c1, c2, c3, g0, g1, g2, g3⟩ := k1.four
  go_wp2
  go_ret
  first | exact ⟨rfl, hO.alloc _⟩ | exact ⟨rfl, (hO.alloc _).set4 hO.size _ _ _ _⟩

set_option maxRecDepth 100000 in
set_option maxHeartbeats 1000000 in
theorem kindR_two_part (s : ByteArray) (hs : s.size ≤ 140737488355328) (h0 : 0 < s.size) (h100 : s.size ≤ 100) (hsp : Hid (Lx.space s[0] = false)) (h2s : 1 < s.size) (hq : ((s.extract 0 2).toList == ([40, 42] : List UInt8)) = false) (k n : Int) (j : Nat) (X : ByteArray) (hX : Hid (s.extract 0 (0 + j) = X)) (hXs : ((X.size : Int) == (s.size : Int)) = false) (hN : Hid (Lx.next (rest s 0) = .tok k n j)) (w : World) :
    Calls Tryz.prog 20 #[.string s] w fun e w' => e = .returned (.int .i64 0) ∧ Old w w' := by
  have h1 : ((s.size : Int) == 0) = false := by rw [beq_eq_false_iff_ne]; omega
  have h2 : decide ((100 : Int) < (s.size : Int)) = false := by simp only [decide_eq_false_iff_not]; omega
  have h3 : (s.size : Int) ≤ 100 := by omega
  have hlt : (0 : Int) < (s.size : Int) := by omega
  have h4 : decide ((1 : Int) < (s.size : Int)) = true := by simp only [decide_eq_true_eq]; omega
  have h5 : (1 : Int) < (s.size : Int) := by omega
  have h6 : (2 : Int) ≤ (s.size : Int) := by omega
  go_enter Tryz.func20, Tryz.ntmps20
  go_wp2_with fail
  refine (spaceR_is hsp _).mono ?_
  rintro e w1 ⟨rfl, rfl⟩
  go_wp2_with fail
  (with_reducible refine (readR_is s hs h0 hN _).mono ?_)
  rw [readV_tok hX]
  rintro e w1 ⟨rfl, hO⟩
  have k1 := Blk.new' (w := w1) (b := w1.heap.size) rfl #[.int .i64 0, .int .i64 0, .string ⟨#[]⟩, .int .i64 0] 41
  obtain ⟨c0, c1, c2, c3, g0, g1, g2, g3⟩ := k1.four
  go_wp2
  go_ret
  first | exact ⟨rfl, hO.alloc _⟩ | exact ⟨rfl, (hO.alloc _).set4 hO.size _ _ _ _⟩

set_option maxRecDepth 100000 in
set_option maxHeartbeats 1000000 in
theorem kindR_two_tok (s : ByteArray) (hs : s.size ≤ 140737488355328) (h0 : 0 < s.size) (h100 : s.size ≤ 100) (hsp : Hid (Lx.space s[0] = false)) (h2s : 1 < s.size) (hq : ((s.extract 0 2).toList == ([40, 42] : List UInt8)) = false) (k n : Int) (j : Nat) (X : ByteArray) (hX : Hid (s.extract 0 (0 + j) = X)) (hXs : ((X.size : Int) == (s.size : Int)) = true) (hN : Hid (Lx.next (rest s 0) = .tok k n j)) (w : World) :
    Calls Tryz.prog 20 #[.string s] w fun e w' => e = .returned (.int .i64 k) ∧ Old w w' := by
  have h1 : ((s.size : Int) == 0) = false := by rw [beq_eq_false_iff_ne]; omega
  have h2 : decide ((100 : Int) < (s.size : Int)) = false := by simp only [decide_eq_false_iff_not]; omega
  have h3 : (s.size : Int) ≤ 100 := by omega
  have hlt : (0 : Int) < (s.size : Int) := by omega
  have h4 : decide ((1 : Int) < (s.size : Int)) = true := by simp only [decide_eq_true_eq]; omega
  have h5 : (1 : Int) < (s.size : Int) := by omega
  have h6 : (2 : Int) ≤ (s.size : Int) := by omega
  go_enter Tryz.func20, Tryz.ntmps20
  go_wp2_with fail
  refine (spaceR_is hsp _).mono ?_
  rintro e w1 ⟨rfl, rfl⟩
  go_wp2_with fail
  (with_reducible refine (readR_is s hs h0 hN _).mono ?_)
  rw [readV_tok hX]
  rintro e w1 ⟨rfl, hO⟩
  have k1 := Blk.new' (w := w1) (b := w1.heap.size) rfl #[.int .i64 0, .int .i64 0, .string ⟨#[]⟩, .int .i64 0] 41
  obtain ⟨c0, c1, c2, c3, g0, g1, g2, g3⟩ := k1.four
  go_wp2
  go_ret
  first | exact ⟨rfl, hO.alloc _⟩ | exact ⟨rfl, (hO.alloc _).set4 hO.size _ _ _ _⟩


theorem kindR_any (s : ByteArray) (hs : s.size ≤ 140737488355328) (w : World) :
    Calls Tryz.prog 20 #[.string s] w fun e w' => e = .returned (.int .i64 (Lx.kind s.data.toList)) ∧ Old w w' := by
  have hlen : s.data.toList.length = s.size := by rw [Array.length_toList]; rfl
  by_cases h0 : s.size = 0
  · rw [show Lx.kind s.data.toList = 0 from by rw [List.length_eq_zero_iff.1 (hlen.trans h0)]; decide]
    exact kindR_empty s hs h0 w
  by_cases h100 : 100 < s.size
  · rw [Lx.kind_long (by omega)]
    exact kindR_long s hs h100 w
  have hp : 0 < s.size := by omega
  have hp0 : Lx.peek s.data.toList 0 = s[0] := head_peek hp
  cases hsp : Lx.space s[0]
  · have tok : ∀ (k n : Int) (j : Nat), Lx.next (rest s 0) = .tok k n j → (s.extract 0 (0 + j)).size = j ∧ j ≤ s.size ∧ Lx.kind s.data.toList = if j = s.size then k else 0 := by
      intro k n j hN
      have hl := Lx.next_len hN
      rw [rest_length] at hl
      refine ⟨by simp; omega, by omega, ?_⟩
      rw [rest_zero] at hN
      split
      · exact Lx.kind_tok hN (by omega)
      · exact Lx.kind_part hN (by omega)
    have errs : ∀ (x : Int), Lx.next (rest s 0) = .err x → Lx.kind s.data.toList = 0 := fun x hN => Lx.kind_err (by rw [rest_zero] at hN; exact hN)
    by_cases h2 : 1 < s.size
    · have key : ((s.extract 0 2).toList == ([40, 42] : List UInt8)) = (decide (s[0] = 40) && decide (s[1] = 42)) := by
        have := extract_two (s := s) (i := 0) h2
        rw [show 0 + 2 = 2 from rfl] at this
        rw [this, two_is]
      cases hq : ((s.extract 0 2).toList == ([40, 42] : List UInt8))
      · cases hN : Lx.next (rest s 0) with
        | err x =>
          rw [errs x hN]
          exact kindR_two_err s hs hp (by omega) (Lib.hid hsp) h2 hq x (by
            rw [beq_eq_false_iff_ne]; rintro rfl; exact Lx.next_err0 hN) (Lib.hid hN) w
        | tok k n j =>
          obtain ⟨hX, hj, hk⟩ := tok k n j hN
          rw [hk]
          by_cases he : j = s.size
          · rw [if_pos he]
            exact kindR_two_tok s hs hp (by omega) (Lib.hid hsp) h2 hq k n j _ (Lib.hid rfl) (by rw [hX, he]; simp) (Lib.hid hN) w
          · rw [if_neg he]
            exact kindR_two_part s hs hp (by omega) (Lib.hid hsp) h2 hq k n j _ (Lib.hid rfl) (by rw [hX, beq_eq_false_iff_ne]; omega) (Lib.hid hN) w
      · have hc := key.symm.trans hq
        simp only [Bool.and_eq_true, decide_eq_true_eq] at hc
        have hp1 : Lx.peek s.data.toList 1 = s[1] := by have := peek_in (t := s) (p := 0) (n := 1) (by omega); simpa [rest_zero] using this
        rw [Lx.kind_comment (hp0.trans hc.1) (hp1.trans hc.2)]
        exact kindR_comment s hs hp (by omega) (Lib.hid hsp) h2 hq w
    · cases hN : Lx.next (rest s 0) with
      | err x =>
        rw [errs x hN]
        exact kindR_one_err s hs hp (by omega) (Lib.hid hsp) (by omega) x (by
          rw [beq_eq_false_iff_ne]; rintro rfl; exact Lx.next_err0 hN) (Lib.hid hN) w
      | tok k n j =>
        obtain ⟨hX, hj, hk⟩ := tok k n j hN
        rw [hk]
        by_cases he : j = s.size
        · rw [if_pos he]
          exact kindR_one_tok s hs hp (by omega) (Lib.hid hsp) (by omega) k n j _ (Lib.hid rfl) (by rw [hX, he]; simp) (Lib.hid hN) w
        · rw [if_neg he]
          exact kindR_one_part s hs hp (by omega) (Lib.hid hsp) (by omega) k n j _ (Lib.hid rfl) (by rw [hX, beq_eq_false_iff_ne]; omega) (Lib.hid hN) w
  · rw [Lx.kind_space (by rw [hp0]; exact hsp)]
    exact kindR_space s hs hp (by omega) (Lib.hid hsp) w
end Go.Proofs.YtdchnjijdkgfhaaGreatDoor
