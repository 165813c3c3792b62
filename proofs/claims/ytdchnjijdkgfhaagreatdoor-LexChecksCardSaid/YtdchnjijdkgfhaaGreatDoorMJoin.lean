/- The reference's check of a token. The reference's Join. lex.Join of a list of any length that memory has. -/
import Derived.Test.YtdchnjijdkgfhaaGreatDoorMSame
import Derived.Test.YtdchnjijdkgfhaaGreatDoorRefKind
import Derived.OwnWalk
import Derived.Laws.AppendOwn
import Derived.Maps.AppendAt
import Derived.Lib.AppendStr
import Derived.Test.YtdchnjijdkgfhaaGreatDoorSaneAll
namespace Lx
theorem nextName_num {l : List B} {k n : Int} {j : Nat} (h : nextName l = .tok k n j) : (k = 2 ∨ k = 3 ∨ k = 5) ∧ n = 0 := by
  unfold nextName at h
  simp only at h
  split at h
  · cases h
  · split at h
    · cases h; exact ⟨.inr (.inl rfl), rfl⟩
    · split at h
      · cases h; exact ⟨.inr (.inr rfl), rfl⟩
      · cases h; exact ⟨.inl rfl, rfl⟩
theorem nextVar_num {l : List B} {k n : Int} {j : Nat} (h : nextVar l = .tok k n j) : k = 4 ∧ n = 0 := by
  unfold nextVar at h
  simp only at h
  split at h
  · cases h
  · cases h; exact ⟨rfl, rfl⟩
theorem nextNum_num {l : List B} {k n : Int} {j : Nat} (h : nextNum l = .tok k n j) : k = 1 ∧ number (l.take j) = some n := by
  have hj := nextNum_len h
  unfold nextNum at h
  simp only at h
  rw [← hj] at h
  cases hn : number (l.take j) with
  | none => rw [hn] at h; cases h
  | some i =>
    rw [hn] at h
    simp only at h
    split at h
    · cases h
    · cases h; exact ⟨rfl, rfl⟩
theorem next_num_is {l : List B} {k n : Int} {j : Nat} (h : next l = .tok k n j) : (k = 1 ∧ number (l.take j) = some n) ∨ (k ≠ 1 ∧ k ≠ 0 ∧ n = 0) := by
  by_cases ha : (small (peek l 0) || capital (peek l 0)) = true
  · rw [next_name ha] at h
    obtain ⟨h1, h2⟩ := nextName_num h
    exact .inr ⟨by omega, by omega, h2⟩
  · have ha' : (small (peek l 0) || capital (peek l 0)) = false := by simpa using ha
    by_cases hb : peek l 0 = 39 ∧ small (peek l 1) = true
    · rw [next_var ha' hb.1 hb.2] at h
      obtain ⟨h1, h2⟩ := nextVar_num h
      exact .inr ⟨by omega, by omega, h2⟩
    · by_cases hc : peek l 0 = 126 ∨ digit (peek l 0) = true
      · rw [next_num ha' hb hc] at h
        exact .inl (nextNum_num h)
      · rw [next_sign ha' hb hc] at h
        split at h
        · cases h; exact .inr ⟨by decide, by decide, rfl⟩
        · split at h
          · cases h; exact .inr ⟨by decide, by decide, rfl⟩
          · cases h
/-- What a text as a whole is, by its kind and the integer that it writes. -/
theorem whole_of (l : List B) : whole l = if kind l = 0 then none else if kind l = 1 then some (1, (number l).getD 0) else some (kind l, 0) := by
  cases hw : whole l with
  | none =>
    have : kind l = 0 := by unfold kind; rw [hw]
    rw [if_pos this]
  | some x =>
    obtain ⟨k, n⟩ := x
    have hk : kind l = k := by unfold kind; rw [hw]
    have hn := next_num_is (whole_iff.1 hw)
    rw [List.take_length] at hn
    rw [hk]
    rcases hn with ⟨h1, h2⟩ | ⟨h1, h2, h3⟩
    · rw [if_neg (by omega), if_pos h1, h1, h2]; rfl
    · rw [if_neg h2, if_neg h1, h3]
end Lx
namespace Go.Proofs.YtdchnjijdkgfhaaGreatDoor
open Go.RowKit

theorem valid_by (x : RT) : x.valid = (decide (0 ≤ x.a) && (Lx.kind x.s.data.toList != 0) && ((x.k == Lx.kind x.s.data.toList) && (x.n == if Lx.kind x.s.data.toList = 1 then (Lx.number x.s.data.toList).getD 0 else 0))) := by
  unfold RT.valid Lx.valid
  rw [Lx.whole_of]
  obtain ⟨k, hk⟩ : ∃ k, Lx.kind x.s.data.toList = k := ⟨_, rfl⟩
  rw [hk]
  by_cases h0 : k = 0
  · subst h0; simp
  · rw [if_neg h0]
    have hb : (k != 0) = true := bne_iff_ne.2 h0
    rw [hb]
    by_cases h1 : k = 1
    · rw [if_pos h1, if_pos h1, h1]; simp
    · rw [if_neg h1, if_neg h1]; simp

theorem kindR_at (t : ByteArray) (ht : t.size ≤ 140737488355328) (w : World) {k : Int} (hk : Hid (Lx.kind t.data.toList = k)) :
    Calls Tryz.prog 20 #[.string t] w fun e w' => e = .returned (.int .i64 k) ∧ Old w w' := by
  have := kindR_any t ht w
  rwa [hk.out] at this
theorem numR_at (t : ByteArray) (w : World) {n : Int} (hn : Hid ((Lx.number t.data.toList).getD 0 = n)) :
    Calls Tryz.prog 39 #[.string t] w fun e w' => (∃ c, e = .returned (.tuple #[.int .i64 n, .int .i64 c])) ∧ w' = w := by
  refine (refNumber_any t w).mono ?_
  rintro e w' ⟨rfl, rfl⟩
  rw [← hn.out]
  cases Lx.number t.data.toList with
  | none => exact ⟨⟨_, rfl⟩, rfl⟩
  | some v => exact ⟨⟨_, rfl⟩, rfl⟩

set_option maxRecDepth 100000 in
set_option maxHeartbeats 1000000 in
theorem checkR_at (x : RT) (hs : x.s.size ≤ 140737488355328) (w : World) (k : Int) (HK : Hid (Lx.kind x.s.data.toList = k)) (ha : decide (x.a < 0) = true) (ha' : x.a < 0) :
    Calls Tryz.prog 15 #[x.v] w fun e w' => e = .returned (.int .i64 10) ∧ Old w w' := by
  have kT0 := Blk.new w #[.int .i64 x.k, .int .i64 x.n, .string x.s, .int .i64 x.a] 41
  obtain ⟨c0, c1, c2, c3, -⟩ := kT0.four
  go_enter Tryz.func15, Tryz.ntmps15
  go_wp2_with fail
  clear c0 c1 c2 c3
  (with_reducible refine (kindR_at x.s hs _ HK).mono ?_)
  rintro e w1 ⟨rfl, hO⟩
  have kT1 := kT0.keep hO (fun e => e)
  obtain ⟨c0, c1, c2, c3, -⟩ := kT1.four
  have O1 := ((Old.refl w).alloc (.cells #[.int .i64 x.k, .int .i64 x.n, .string x.s, .int .i64 x.a] 41 (0, 0))).trans hO
  clear kT0 hO
  go_wp2
  go_ret
  exact ⟨rfl, O1⟩

set_option maxRecDepth 100000 in
set_option maxHeartbeats 1000000 in
theorem checkR_kind (x : RT) (hs : x.s.size ≤ 140737488355328) (w : World) (k : Int) (HK : Hid (Lx.kind x.s.data.toList = k)) (ha : decide (x.a < 0) = false) (ha' : 0 ≤ x.a) (e_k : (k == 0) = true) (n_k : (k != 0) = false) :
    Calls Tryz.prog 15 #[x.v] w fun e w' => e = .returned (.int .i64 10) ∧ Old w w' := by
  have kT0 := Blk.new w #[.int .i64 x.k, .int .i64 x.n, .string x.s, .int .i64 x.a] 41
  obtain ⟨c0, c1, c2, c3, -⟩ := kT0.four
  go_enter Tryz.func15, Tryz.ntmps15
  go_wp2_with fail
  clear c0 c1 c2 c3
  (with_reducible refine (kindR_at x.s hs _ HK).mono ?_)
  rintro e w1 ⟨rfl, hO⟩
  have kT1 := kT0.keep hO (fun e => e)
  obtain ⟨c0, c1, c2, c3, -⟩ := kT1.four
  have O1 := ((Old.refl w).alloc (.cells #[.int .i64 x.k, .int .i64 x.n, .string x.s, .int .i64 x.a] 41 (0, 0))).trans hO
  clear kT0 hO
  go_wp2
  go_ret
  exact ⟨rfl, O1⟩

set_option maxRecDepth 100000 in
set_option maxHeartbeats 1000000 in
theorem checkR_other (x : RT) (hs : x.s.size ≤ 140737488355328) (w : World) (k : Int) (HK : Hid (Lx.kind x.s.data.toList = k)) (ha : decide (x.a < 0) = false) (ha' : 0 ≤ x.a) (e_k : (k == 0) = false) (n_k : (k != 0) = true) (e_o : (k == x.k) = false) (n_o : (k != x.k) = true) :
    Calls Tryz.prog 15 #[x.v] w fun e w' => e = .returned (.int .i64 10) ∧ Old w w' := by
  have kT0 := Blk.new w #[.int .i64 x.k, .int .i64 x.n, .string x.s, .int .i64 x.a] 41
  obtain ⟨c0, c1, c2, c3, -⟩ := kT0.four
  go_enter Tryz.func15, Tryz.ntmps15
  go_wp2_with fail
  clear c0 c1 c2 c3
  (with_reducible refine (kindR_at x.s hs _ HK).mono ?_)
  rintro e w1 ⟨rfl, hO⟩
  have kT1 := kT0.keep hO (fun e => e)
  obtain ⟨c0, c1, c2, c3, -⟩ := kT1.four
  have O1 := ((Old.refl w).alloc (.cells #[.int .i64 x.k, .int .i64 x.n, .string x.s, .int .i64 x.a] 41 (0, 0))).trans hO
  clear kT0 hO
  go_wp2
  go_ret
  exact ⟨rfl, O1⟩

set_option maxRecDepth 100000 in
set_option maxHeartbeats 1000000 in
theorem checkR_num_ok (x : RT) (hs : x.s.size ≤ 140737488355328) (w : World) (k : Int) (HK : Hid (Lx.kind x.s.data.toList = k)) (ha : decide (x.a < 0) = false) (ha' : 0 ≤ x.a) (e_k : (k == 0) = false) (n_k : (k != 0) = true) (e_o : (k == x.k) = true) (n_o : (k != x.k) = false) (n : Int) (HN : Hid ((Lx.number x.s.data.toList).getD 0 = n)) (e_p : (k == 1) = true) (n_p : (k != 1) = false) (e_q : (n == x.n) = true) (n_q : (n != x.n) = false) :
    Calls Tryz.prog 15 #[x.v] w fun e w' => e = .returned (.int .i64 0) ∧ Old w w' := by
  have kT0 := Blk.new w #[.int .i64 x.k, .int .i64 x.n, .string x.s, .int .i64 x.a] 41
  obtain ⟨c0, c1, c2, c3, -⟩ := kT0.four
  go_enter Tryz.func15, Tryz.ntmps15
  go_wp2_with fail
  clear c0 c1 c2 c3
  (with_reducible refine (kindR_at x.s hs _ HK).mono ?_)
  rintro e w1 ⟨rfl, hO⟩
  have kT1 := kT0.keep hO (fun e => e)
  obtain ⟨c0, c1, c2, c3, -⟩ := kT1.four
  have O1 := ((Old.refl w).alloc (.cells #[.int .i64 x.k, .int .i64 x.n, .string x.s, .int .i64 x.a] 41 (0, 0))).trans hO
  clear kT0 hO
  go_wp2_with fail
  (with_reducible refine (numR_at x.s _ HN).mono ?_)
  rintro e w2 ⟨⟨c, rfl⟩, rfl⟩
  go_wp2
  go_ret
  exact ⟨rfl, O1⟩

set_option maxRecDepth 100000 in
set_option maxHeartbeats 1000000 in
theorem checkR_num_bad (x : RT) (hs : x.s.size ≤ 140737488355328) (w : World) (k : Int) (HK : Hid (Lx.kind x.s.data.toList = k)) (ha : decide (x.a < 0) = false) (ha' : 0 ≤ x.a) (e_k : (k == 0) = false) (n_k : (k != 0) = true) (e_o : (k == x.k) = true) (n_o : (k != x.k) = false) (n : Int) (HN : Hid ((Lx.number x.s.data.toList).getD 0 = n)) (e_p : (k == 1) = true) (n_p : (k != 1) = false) (e_q : (n == x.n) = false) (n_q : (n != x.n) = true) :
    Calls Tryz.prog 15 #[x.v] w fun e w' => e = .returned (.int .i64 10) ∧ Old w w' := by
  have kT0 := Blk.new w #[.int .i64 x.k, .int .i64 x.n, .string x.s, .int .i64 x.a] 41
  obtain ⟨c0, c1, c2, c3, -⟩ := kT0.four
  go_enter Tryz.func15, Tryz.ntmps15
  go_wp2_with fail
  clear c0 c1 c2 c3
  (with_reducible refine (kindR_at x.s hs _ HK).mono ?_)
  rintro e w1 ⟨rfl, hO⟩
  have kT1 := kT0.keep hO (fun e => e)
  obtain ⟨c0, c1, c2, c3, -⟩ := kT1.four
  have O1 := ((Old.refl w).alloc (.cells #[.int .i64 x.k, .int .i64 x.n, .string x.s, .int .i64 x.a] 41 (0, 0))).trans hO
  clear kT0 hO
  go_wp2_with fail
  (with_reducible refine (numR_at x.s _ HN).mono ?_)
  rintro e w2 ⟨⟨c, rfl⟩, rfl⟩
  go_wp2
  go_ret
  exact ⟨rfl, O1⟩

set_option maxRecDepth 100000 in
set_option maxHeartbeats 1000000 in
theorem checkR_not_ok (x : RT) (hs : x.s.size ≤ 140737488355328) (w : World) (k : Int) (HK : Hid (Lx.kind x.s.data.toList = k)) (ha : decide (x.a < 0) = false) (ha' : 0 ≤ x.a) (e_k : (k == 0) = false) (n_k : (k != 0) = true) (e_o : (k == x.k) = true) (n_o : (k != x.k) = false) (n : Int) (HN : Hid ((Lx.number x.s.data.toList).getD 0 = n)) (e_p : (k == 1) = false) (n_p : (k != 1) = true) (e_q : (x.n == 0) = true) (n_q : (x.n != 0) = false) :
    Calls Tryz.prog 15 #[x.v] w fun e w' => e = .returned (.int .i64 0) ∧ Old w w' := by
  have kT0 := Blk.new w #[.int .i64 x.k, .int .i64 x.n, .string x.s, .int .i64 x.a] 41
  obtain ⟨c0, c1, c2, c3, -⟩ := kT0.four
  go_enter Tryz.func15, Tryz.ntmps15
  go_wp2_with fail
  clear c0 c1 c2 c3
  (with_reducible refine (kindR_at x.s hs _ HK).mono ?_)
  rintro e w1 ⟨rfl, hO⟩
  have kT1 := kT0.keep hO (fun e => e)
  obtain ⟨c0, c1, c2, c3, -⟩ := kT1.four
  have O1 := ((Old.refl w).alloc (.cells #[.int .i64 x.k, .int .i64 x.n, .string x.s, .int .i64 x.a] 41 (0, 0))).trans hO
  clear kT0 hO
  go_wp2_with fail
  (with_reducible refine (numR_at x.s _ HN).mono ?_)
  rintro e w2 ⟨⟨c, rfl⟩, rfl⟩
  go_wp2
  go_ret
  exact ⟨rfl, O1⟩

set_option maxRecDepth 100000 in
set_option maxHeartbeats 1000000 in
theorem checkR_not_bad (x : RT) (hs : x.s.size ≤ 140737488355328) (w : World) (k : Int) (HK : Hid (Lx.kind x.s.data.toList = k)) (ha : decide (x.a < 0) = false) (ha' : 0 ≤ x.a) (e_k : (k == 0) = false) (n_k : (k != 0) = true) (e_o : (k == x.k) = true) (n_o : (k != x.k) = false) (n : Int) (HN : Hid ((Lx.number x.s.data.toList).getD 0 = n)) (e_p : (k == 1) = false) (n_p : (k != 1) = true) (e_q : (x.n == 0) = false) (n_q : (x.n != 0) = true) :
    Calls Tryz.prog 15 #[x.v] w fun e w' => e = .returned (.int .i64 10) ∧ Old w w' := by
  have kT0 := Blk.new w #[.int .i64 x.k, .int .i64 x.n, .string x.s, .int .i64 x.a] 41
  obtain ⟨c0, c1, c2, c3, -⟩ := kT0.four
  go_enter Tryz.func15, Tryz.ntmps15
  go_wp2_with fail
  clear c0 c1 c2 c3
  (with_reducible refine (kindR_at x.s hs _ HK).mono ?_)
  rintro e w1 ⟨rfl, hO⟩
  have kT1 := kT0.keep hO (fun e => e)
  obtain ⟨c0, c1, c2, c3, -⟩ := kT1.four
  have O1 := ((Old.refl w).alloc (.cells #[.int .i64 x.k, .int .i64 x.n, .string x.s, .int .i64 x.a] 41 (0, 0))).trans hO
  clear kT0 hO
  go_wp2_with fail
  (with_reducible refine (numR_at x.s _ HN).mono ?_)
  rintro e w2 ⟨⟨c, rfl⟩, rfl⟩
  go_wp2
  go_ret
  exact ⟨rfl, O1⟩

theorem bools {a b : Int} : ((a == b) = true ∧ (a != b) = false) ∨ ((a == b) = false ∧ (a != b) = true) := by
  unfold bne
  cases (a == b)
  · exact .inr ⟨rfl, rfl⟩
  · exact .inl ⟨rfl, rfl⟩
theorem checkR_any (x : RT) (hs : x.s.size ≤ 140737488355328) (w : World) :
    Calls Tryz.prog 15 #[x.v] w fun e w' => e = .returned (.int .i64 (if x.valid then 0 else 10)) ∧ Old w w' := by
  rw [valid_by]
  obtain ⟨k, hk⟩ : ∃ k, Lx.kind x.s.data.toList = k := ⟨_, rfl⟩
  obtain ⟨n, hn⟩ : ∃ n, (Lx.number x.s.data.toList).getD 0 = n := ⟨_, rfl⟩
  rw [hk, hn]
  have HK := Lib.hid hk
  have HN := Lib.hid hn
  by_cases ha : x.a < 0
  · rw [show decide (0 ≤ x.a) = false from decide_eq_false (by omega)]
    exact checkR_at x hs w k HK (decide_eq_true ha) ha
  · have ha2 : 0 ≤ x.a := by omega
    rw [show decide (0 ≤ x.a) = true from decide_eq_true ha2]
    have h1 := decide_eq_false ha
    rcases bools (a := k) (b := 0) with ⟨e1, n1⟩ | ⟨e1, n1⟩
    · rw [n1]
      exact checkR_kind x hs w k HK h1 ha2 e1 n1
    · rw [n1]
      rcases bools (a := k) (b := x.k) with ⟨e2, n2⟩ | ⟨e2, n2⟩
      · rw [show (x.k == k) = true from by rw [beq_iff_eq] at *; exact e2.symm]
        rcases bools (a := k) (b := 1) with ⟨e3, n3⟩ | ⟨e3, n3⟩
        · rw [if_pos (beq_iff_eq.1 e3)]
          rcases bools (a := n) (b := x.n) with ⟨e4, n4⟩ | ⟨e4, n4⟩
          · rw [show (x.n == n) = true from by rw [beq_iff_eq] at *; exact e4.symm]
            exact checkR_num_ok x hs w k HK h1 ha2 e1 n1 e2 n2 n HN e3 n3 e4 n4
          · rw [show (x.n == n) = false from by rw [beq_eq_false_iff_ne] at *; exact Ne.symm e4]
            exact checkR_num_bad x hs w k HK h1 ha2 e1 n1 e2 n2 n HN e3 n3 e4 n4
        · rw [if_neg (show ¬ k = 1 from beq_eq_false_iff_ne.1 e3)]
          rcases bools (a := x.n) (b := 0) with ⟨e4, n4⟩ | ⟨e4, n4⟩
          · rw [e4]
            exact checkR_not_ok x hs w k HK h1 ha2 e1 n1 e2 n2 n HN e3 n3 e4 n4
          · rw [e4]
            exact checkR_not_bad x hs w k HK h1 ha2 e1 n1 e2 n2 n HN e3 n3 e4 n4
      · rw [show (x.k == k) = false from by rw [beq_eq_false_iff_ne] at *; exact Ne.symm e2]
        exact checkR_other x hs w k HK h1 ha2 e1 n1 e2 n2
end Go.Proofs.YtdchnjijdkgfhaaGreatDoor

namespace Go.Proofs.YtdchnjijdkgfhaaGreatDoor
open Go.RowKit

theorem infoU8 : (Tryz.prog.info? 5).map (fun i => (i.zero, i.size, i.bytes)) = some (some (.int .u8 0), 1, 1) := by kernel_rfl

theorem checkR_is (x : RT) (hs : x.s.size ≤ 140737488355328) {b : Bool} (hb : Hid (x.valid = b)) (w : World) :
    Calls Tryz.prog 15 #[x.v] w fun e w' => e = .returned (.int .i64 (if b then 0 else 10)) ∧ Old w w' := by
  rw [← hb.out]
  exact checkR_any x hs w

theorem own_some {w : World} {base : Nat} {e : TypeId} {size : Nat} {v : Value} {n : Nat} {xs : List Value} (h : w.ownsRow base e size v n xs) (hne : v ≠ .slice none 0 0) : ∃ g c, v = .slice (some ⟨g, 0, none⟩) n c := by
  obtain ⟨_, h2⟩ := h
  rcases h2 with ⟨h2, _⟩ | ⟨g, cap, cur, hv, _⟩
  · exact absurd h2 hne
  · exact ⟨g, cap, hv⟩
theorem meas_lt {j r g : Nat} (h : j < r) (hg : g = r - j) : r - (j + 1) < g := by omega

set_option maxRecDepth 100000 in
set_option maxHeartbeats 4000000 in
theorem joinRR_any (L : List RT) (la : Option Addr) (lc : Nat) (w : World) (hL : TlAt w la L) (hn : L.length ≤ 3518437208883) (hs : ∀ x ∈ L, x.s.size ≤ 140737488355328) :
    Calls Tryz.prog 17 #[.slice la L.length lc] w fun e w' => e = .returned (.string ⟨(joinR L).toArray⟩) ∧ Old w w' := by
  have HN := Lib.hid hn
  clear hn
  go_enter Tryz.func17, Tryz.ntmps17
  go_wp2_with fail
  go_loopg [3, 4] L.length (fun g x y wr => ∃ i m : Nat, g = L.length - i ∧ i ≤ L.length ∧ y = .int .i64 i ∧ (∀ y ∈ L.take i, y.valid = true) ∧ (Lx.jn ((L.take i).map RT.bytes)).length = m ∧ wr.ownsRow w.heap.size 5 1 x m (Lib.byteCells (Lx.jn ((L.take i).map RT.bytes))) ∧ (∃ g c, x = .slice (some ⟨g, 0, none⟩) m c) ∧ Old w wr)
  case atStart =>
    refine ⟨0, 0, rfl, Nat.zero_le _, rfl, by simp, rfl, ?_, ⟨_, _, rfl⟩, (Old.refl w).alloc _⟩
    exact ⟨rfl, .inr ⟨w.heap.size, 0, #[], rfl, Nat.le_refl _, World.alloc_heap_new w _, Nat.le_refl _, Nat.zero_le _, rfl, rfl⟩⟩
  case round =>
    obtain ⟨i, m, hgk, hi, rfl, hval, hjm, hown, ⟨gg, gc, rfl⟩, hO⟩ := hrel
    have HG := Lib.hid hgk
    clear hgk
    by_cases hlt : i < L.length
    · have hd : decide ((i : Int) < (L.length : Int)) = true := decide_eq_true (Int.ofNat_lt.2 hlt)
      have hli : (i : Int) < (L.length : Int) := Int.ofNat_lt.2 hlt
      have hL0 := hL i hlt
      obtain ⟨g, o, rfl, hgl, x0, x1, x2, x3⟩ := (hL.old hO) i hlt
      have HC : Hid (∀ w', Old w w' → g < w'.heap.size ∧ w'.cell? ⟨g, o + i * 4 + 2, none⟩ = some (.string L[i].s)) := Lib.hid (fun w' hw' => by
        obtain ⟨g2, o2, e2, b1, b2, b3, b4, b5⟩ := (hL.old hw') i hlt
        cases e2
        exact ⟨b1, b4⟩)
      clear hL0
      obtain ⟨x, hx⟩ : ∃ x, L[i] = x := ⟨_, rfl⟩
      have hmem : x ∈ L := hx ▸ List.getElem_mem hlt
      have hsz := hs x hmem
      rw [hx] at x0 x1 x2 x3 HC
      have htk : L.take (i + 1) = L.take i ++ [x] := by rw [← hx, List.take_append_getElem hlt]
      have hjl : m ≤ i * 25 := by
        rw [← hjm]
        have := jn_length 24 ((L.take i).map RT.bytes) (fun z hz => by
          obtain ⟨y, hy, rfl⟩ := List.mem_map.1 hz
          have h1 := valid_short (hval y hy)
          unfold RT.bytes
          rw [Array.length_toList]
          exact h1)
        rw [List.length_map, List.length_take, Nat.min_eq_left hi] at this
        exact this
      have HJL := Lib.hid (show m ≤ 87960930222075 by have := HN.out; omega)
      have HI := Lib.hid hlt
      have hwr' : Hid (wrap64 ((i : Int) + 1) = ((i + 1 : Nat) : Int)) := Lib.hid (by have := HN.out; rw [IntWalk.wrap64_in _ (by omega)]; omega)
      have HB : Hid (x.valid = false → joinR L = []) := Lib.hid (fun e => joinR_bad hlt (by rw [hx]; exact e))
      clear hjl hx
      cases hr : x.valid
      · have HR := Lib.hid hr
        clear hr hi hlt
        go_wp2_with fail
        (with_reducible refine (checkR_is x hsz HR _).mono ?_)
        rintro e w2 ⟨rfl, P2⟩
        have hO2 := hO.trans P2
        go_wp2
        refine bodyPost_ret (v := .string ⟨#[]⟩) (by simp [results, Tryz.results17, go_sem]) rfl ⟨by rw [HB.out HR.out], hO2⟩
      · have HR := Lib.hid hr
        have hxs := valid_short hr
        have hvn : ∀ y ∈ L.take (i + 1), y.valid = true := by
          intro y hy
          rw [htk, List.mem_append] at hy
          rcases hy with hy | hy
          · exact hval y hy
          · simp at hy; subst hy; exact hr
        have HVN := Lib.hid hvn
        have HTK := Lib.hid htk
        have HJM := Lib.hid hjm
        clear hr hi hlt hval hvn htk hjm
        obtain ⟨i0, hi0, hz0, hz1, hz2⟩ := info_parts infoU8
        go_wp2_with fail
        (with_reducible refine (checkR_is x hsz HR _).mono ?_)
        rintro e w2 ⟨rfl, P2⟩
        have hO2 := hO.trans P2
        have own2 := own_keep hown P2 (fun _ _ e => e)
        obtain ⟨hgl2, y2⟩ := HC.out w2 hO2
        have hbase : w.heap.size ≤ w2.heap.size := hO2.size
        have hm1 : m + 1 + x.s.size ≤ 140737488355328 := by have := HJL.out; omega
        clear x0 x1 x2 x3 hown hO P2 hgl
        cases i with
        | zero =>
          have hm2 : m + x.s.size ≤ maxLen := by unfold maxLen; omega
          have hm3 : m + x.s.size ≤ 140737488355328 := by omega
          go_wp2_with (first
            | (at_builtin; refine Lib.wpList_append_own_string _ rfl _ _ 53 9 rfl w.heap.size 5 i0 Tryz.underlying53 Tryz.underlying9 hi0 hz0 hz1 hz2 _ _ _ rfl own2 x.s rfl hm2 hm3 hbase ?_; intro v' w4 hown' hgrow hnil
               have F4 : Fr (fun q => Value.ownBlock (.slice (some ⟨gg, 0, none⟩) m gc) = some q) w2 w4 := (Fr.refl _ w2).grown hgrow (fun q e _ => e)
               have O4 : Old w w4 := Fr.trans' hO2 F4 (fun k hk e => absurd (own_cells own2 e).1 (Nat.not_le.2 hk))
               obtain ⟨g', cap', hv'⟩ := own_some hown' (fun e => by have := (hnil.1 e).1; cases this)
               subst hv'
               clear hgrow hnil F4)
            | fail)
          go_roundg (L.length - (0 + 1))
          case measure => exact meas_lt HI.out HG.out
          case rel =>
            refine ⟨0 + 1, m + x.s.size, rfl, HI.out, by first | rfl | rw [hwr'.out], HVN.out, ?_, ?_, ⟨_, _, rfl⟩, O4⟩
            · rw [HTK.out, ← HJM.out]
              simp [Lx.jn, RT.bytes]
            · rw [HTK.out]
              simpa [Lx.jn, RT.bytes, Lib.byteCells, Lib.strCells] using hown'
        | succ i =>
          have hm2 : m + 1 + x.s.size ≤ maxLen := by unfold maxLen; omega
          have hm4 : m + 1 ≤ maxLen := by unfold maxLen; omega
          have hm5 : (m + 1) * 1 ≤ 140737488355328 := by omega
          have hpos : decide (0 < ((i + 1 : Nat) : Int)) = true := by simp only [decide_eq_true_eq]; omega
          go_wp2_with (first
            | (at_builtin; refine wpList_append_own _ rfl _ _ 53 rfl w.heap.size 5 i0 (.int .u8 0) 1 1 Tryz.underlying53 hi0 hz0 hz1 hz2 rfl (by decide) _ _ _ rfl (own2.alloc _) ⟨w2.heap.size, 0, none⟩ 1 1 [.int .u8 32] rfl rfl (cell_one_new _ _ _) (by intro u hu; simp at hu; subst hu; rfl) hm4 hm5 (by simp; omega) ?_; intro v' w4 hown' hgrow hnil
               have F4 : Fr (fun q => Value.ownBlock (.slice (some ⟨gg, 0, none⟩) m gc) = some q) w2 w4 := ((Fr.refl _ w2).alloc _).grown hgrow (fun q e _ => e)
               have O4 : Old w w4 := Fr.trans' hO2 F4 (fun k hk e => absurd (own_cells own2 e).1 (Nat.not_le.2 hk))
               obtain ⟨g', cap', hv'⟩ := own_some hown' (fun e => by have := (hnil.1 e).1; cases this)
               subst hv'
               obtain ⟨hgl4, y4⟩ := HC.out w4 O4
               have hb4 := O4.size
               clear hgrow hnil F4)
            | (at_builtin; refine Lib.wpList_append_own_string _ rfl _ _ 53 9 rfl w.heap.size 5 i0 Tryz.underlying53 Tryz.underlying9 hi0 hz0 hz1 hz2 _ _ _ rfl hown' x.s rfl hm2 hm1 hb4 ?_; intro v5 w5 hown5 hgrow5 hnil5
               have F5 : Fr (fun q => Value.ownBlock (.slice (some ⟨g', 0, none⟩) (m + 1) cap') = some q) w4 w5 := (Fr.refl _ w4).grown hgrow5 (fun q e _ => e)
               have O5 : Old w w5 := Fr.trans' O4 F5 (fun k hk e => absurd (own_cells hown' e).1 (Nat.not_le.2 hk))
               obtain ⟨g5, cap5, hv5⟩ := own_some hown5 (fun e => by have := (hnil5.1 e).1; cases this)
               subst hv5
               clear hgrow5 hnil5 F5)
            | fail)
          go_roundg (L.length - (i + 1 + 1))
          case measure => exact meas_lt HI.out HG.out
          case rel =>
            have hne : (L.take (i + 1)).map RT.bytes ≠ [] := by
              intro e
              have := congrArg List.length e
              rw [List.length_map, List.length_take, List.length_nil] at this
              have := HI.out
              omega
            refine ⟨i + 1 + 1, m + 1 + x.s.size, rfl, HI.out, by first | rfl | rw [hwr'.out] | exact congrArg (Value.int .i64) hwr'.out, HVN.out, ?_, ?_, ⟨_, _, rfl⟩, O5⟩
            · rw [HTK.out, List.map_append, List.map_cons, List.map_nil, Lx.jn_snoc _ _ hne, List.length_append, HJM.out, List.length_cons]
              simp [RT.bytes]
              omega
            · rw [HTK.out, List.map_append, List.map_cons, List.map_nil, Lx.jn_snoc _ _ hne]
              rw [show Lib.byteCells (Lx.jn ((L.take (i + 1)).map RT.bytes) ++ 32 :: x.bytes) = Lib.byteCells (Lx.jn ((L.take (i + 1)).map RT.bytes)) ++ [.int .u8 32] ++ Lib.strCells x.s from by
                simp [Lib.byteCells, Lib.strCells, RT.bytes]]
              exact hown5
    · have hd : decide ((i : Int) < (L.length : Int)) = false := decide_eq_false (fun e => hlt (Int.ofNat_lt.1 e))
      have hdn : decide (i < L.length) = false := decide_eq_false hlt
      have hin : i = L.length := by omega
      subst hin
      rw [List.take_length] at hval hown hjm
      have hall : joinR L = Lx.jn (L.map RT.bytes) := by
        unfold joinR
        rw [if_pos (List.all_eq_true.2 hval)]
      have HA := Lib.hid hall
      subst hjm
      have hbk := run_convert_bytes_back (P := Tryz.prog) wr 53 9 5 ⟨gg, 0, none⟩ gc (Lx.jn (L.map RT.bytes)) Tryz.underlying53 Tryz.underlying5 Tryz.underlying9 (fun j hj => by
        have := hown.cells (g := gg) rfl j (.int .u8 ((Lx.jn (L.map RT.bytes))[j].toNat : Int)) (by simp [Lib.byteCells, hj])
        exact this)
      clear hall hlt hi hval
      go_wp2
      go_ret
      exact ⟨by rw [HA.out]; rfl, hO⟩
end Go.Proofs.YtdchnjijdkgfhaaGreatDoor

namespace Go.Proofs.YtdchnjijdkgfhaaGreatDoor
open Go.RowKit

set_option maxRecDepth 100000 in
set_option maxHeartbeats 2000000 in
theorem join_wide (L : List RT) (la : Option Addr) (lc : Nat) (w : World) (hg : Gl w) (hL : TlAt w la L) (hn : L.length ≤ 3518437208883) (hs : ∀ x ∈ L, x.s.size ≤ 140737488355328) (hv : ∀ x ∈ L, x.valid = true → x.s.size ≤ 24) :
    Calls Tryz.prog 16 #[.slice la L.length lc] w fun e w' => e = .returned (.string ⟨(joinR L).toArray⟩) ∧ Old w w' := by
  have h6 := hg.lt
  go_enter Tryz.func16, Tryz.ntmps16
  go_wp2_with fail
  refine (new_st ⟨#[]⟩ w (by decide)).mono ?_
  rintro e w1 ⟨rfl, hS, hC, hO⟩
  go_wp2_with fail
  have hb1 : w.heap.size ≤ w1.heap.size := hO.size
  have hlt1 : w.heap.size < w1.heap.size := hS.lt
  have hB0 : IsB w1.heap.size w1.heap.size [] (w1.alloc (.cells #[.pointer none, .slice none 0 0] 73)) := by
    refine .inl ⟨Nat.le_refl _, .slice none 0 0, World.alloc_heap_new w1 _, ⟨rfl, .inl ⟨rfl, rfl⟩⟩, ?_⟩
    intro e
    cases e
  go_loopg [10] L.length (fun g x wr => ∃ (i : Nat) (t : ByteArray) (q : Nat), g = L.length - i ∧ i ≤ L.length ∧ x = .int .i64 i ∧ (∀ y ∈ L.take i, y.valid = true) ∧ IsB w1.heap.size w1.heap.size (Lib.byteCells (Lx.jn ((L.take i).map RT.bytes))) wr ∧ St wr w.heap.size t q (.slice none 0 0) ∧ Old w wr ∧ w1.heap.size < wr.heap.size)
  case atStart =>
    exact ⟨0, ⟨#[]⟩, 0, rfl, Nat.zero_le _, rfl, by simp, hB0, hS.alloc _, hO.alloc _, by simp⟩
  case round =>
    obtain ⟨i, t, q, hgk, hi, rfl, hval, hB, hSt, hOr, hwr⟩ := hrel
    have HG := Lib.hid hgk
    clear hgk
    by_cases hlt : i < L.length
    · have hd : decide ((i : Int) < (L.length : Int)) = true := by simp only [decide_eq_true_eq]; omega
      obtain ⟨g, o, rfl, hgl, x0, x1, x2, x3⟩ := (hL.old hOr) i hlt
      obtain ⟨x, hx⟩ : ∃ x, L[i] = x := ⟨_, rfl⟩
      have hmem : x ∈ L := hx ▸ List.getElem_mem hlt
      have hsz := hs x hmem
      rw [hx] at x0 x1 x2 x3
      have htk : L.take (i + 1) = L.take i ++ [x] := by rw [← hx, List.take_append_getElem hlt]
      have hjl : (Lx.jn ((L.take i).map RT.bytes)).length ≤ i * 25 := by
        have := jn_length 24 ((L.take i).map RT.bytes) (fun z hz => by
          obtain ⟨y, hy, rfl⟩ := List.mem_map.1 hz
          have h1 := hv y (List.mem_of_mem_take hy) (hval y hy)
          unfold RT.bytes
          rw [Array.length_toList]
          exact h1)
        rw [List.length_map, List.length_take, Nat.min_eq_left hi] at this
        exact this
      have HJ := Lib.hid (show i * 25 ≤ 100000000000000 by omega)
      have HJL := Lib.hid hjl
      have HI := Lib.hid hlt
      have HN := Lib.hid hn
      have hwr' : Hid (wrap64 ((i : Int) + 1) = (i : Int) + 1) := Lib.hid (IntWalk.wrap64_in _ (by omega))
      clear hjl hn hi
      cases hr : x.valid
      · have HR := Lib.hid hr
        clear hr
        go_wp2_with fail
        refine (valid_cases _ w.heap.size t q _ (hSt.alloc _) ((hg.old hOr).alloc _) h6 x hsz HR).mono ?_
        rintro e w2 ⟨rfl, f2, -⟩
        have hO2 : Old w w2 := Old.but' (hOr.alloc _) (Nat.le_refl _) f2
        have hbad := joinR_bad hlt (by rw [hx]; exact HR.out)
        go_wp2
        refine bodyPost_ret (v := .string ⟨#[]⟩) (by simp [results, Tryz.results16, go_sem]) rfl ⟨by rw [hbad], hO2⟩
      · have HR := Lib.hid hr
        have hxs := hv x hmem hr
        clear hr
        go_wp2_with fail
        refine (valid_cases _ w.heap.size t q _ (hSt.alloc _) ((hg.old hOr).alloc _) h6 x hsz HR).mono ?_
        rintro e w2 ⟨rfl, f2, hst2⟩
        obtain ⟨t', q', hS2⟩ := hst2 rfl
        clear hst2
        have hO2 : Old w w2 := Old.but' (hOr.alloc _) (Nat.le_refl _) f2
        have hB2 : IsB w1.heap.size w1.heap.size (Lib.byteCells (Lx.jn ((L.take i).map RT.bytes))) w2 := by
          refine (hB.keep ((Old.refl wr).alloc _) (by simp) (fun k e => e.elim)).keep f2 (by omega) ?_
          rintro k rfl
          obtain ⟨r, hr1, _⟩ := (hSt.alloc (.cells #[.int .i64 x.k, .int .i64 x.n, .string x.s, .int .i64 x.a] 41 (0, 0)))
          exact ⟨_, _, _, hr1.blk, by decide⟩
        have kT : Blk w2 wr.heap.size #[.int .i64 x.k, .int .i64 x.n, .string x.s, .int .i64 x.a] 41 := (Blk.new' rfl _ _).keep f2 (by omega)
        have hz2 : w1.heap.size ≤ w2.heap.size := by have := f2.size; simp at this; omega
        have hvn : ∀ y ∈ L.take (i + 1), y.valid = true := by
          intro y hy
          rw [htk, List.mem_append] at hy
          rcases hy with hy | hy
          · exact hval y hy
          · simp at hy; subst hy; exact HR.out
        have HTK := Lib.hid htk
        clear htk
        cases i with
        | zero =>
          obtain ⟨c0, c1, c2, c3, -⟩ := kT.four
          go_wp2_with fail
          refine (writeString_any w1.heap.size w1.heap.size _ x.s _ hB2 (by simp [Lib.byteCells, Lx.jn]; omega) hz2).mono ?_
          rintro e w3 ⟨rfl, hB3, hb3, ho3⟩
          have F3 := Fr.oth hb3 ho3
          have hS3 := hS2.oth F3 (by omega) hB2.blk
          have hO3 : Old w w3 := hO2.below (hb3.mono hb1)
          have hz3 : w1.heap.size < w3.heap.size := by have := hb3.size; have := f2.size; simp at this; omega
          have HH := Lib.hid hvn
          clear c0 c1 c2 c3 hz2 hxs hsz hmem hwr hlt1 hb1 hd x0 x1 x2 x3
          go_wp2
          go_roundg (L.length - (0 + 1))
          case measure => have := HG.out; have := HI.out; omega
          case rel =>
            refine ⟨0 + 1, _, _, rfl, HI.out, rfl, HH.out, .inr ?_, hS3, hO3, hz3⟩
            rw [HTK.out]
            simpa [Lx.jn, RT.bytes, Lib.byteCells, Lib.strCells] using hB3
        | succ i =>
          obtain ⟨c0, c1, c2, c3, -⟩ := kT.four
          have hpos : decide (0 < ((i + 1 : Nat) : Int)) = true := by simp only [decide_eq_true_eq]; omega
          go_wp2_with fail
          refine (writeByte_any w1.heap.size w1.heap.size _ 32 _ hB2 (by rw [Lib.byteCells_length]; have := HJL.out; have := HJ.out; omega) hz2).mono ?_
          rintro e w3 ⟨rfl, hB3, hb3, ho3⟩
          have F3 := Fr.oth hb3 ho3
          have hS3 := hS2.oth F3 (by omega) hB2.blk
          have kT3 := kT.oth F3 (by omega) (by decide)
          have hO3 : Old w w3 := hO2.below (hb3.mono hb1)
          have hz3 : w1.heap.size ≤ w3.heap.size := by have := hb3.size; omega
          clear c0 c1 c2 c3
          obtain ⟨c0, c1, c2, c3, -⟩ := kT3.four
          go_wp2_with fail
          refine (writeString_any w1.heap.size w1.heap.size _ x.s _ (.inr hB3) (by rw [List.length_append, Lib.byteCells_length, List.length_singleton]; have := HJL.out; have := HJ.out; omega) hz3).mono ?_
          rintro e w4 ⟨rfl, hB4, hb4, ho4⟩
          have F4 := Fr.oth hb4 ho4
          have hS4 := hS3.oth F4 (by omega) (IsB.blk (.inr hB3))
          have hO4 : Old w w4 := hO3.below (hb4.mono hb1)
          have hz4 : w1.heap.size < w4.heap.size := by have := hb3.size; have := hb4.size; have := f2.size; simp at this; omega
          have HH := Lib.hid hvn
          clear c0 c1 c2 c3 hz2 hz3 hxs hsz hmem hwr hlt1 hb1 hd x0 x1 x2 x3 hpos
          go_wp2
          go_roundg (L.length - (i + 1 + 1))
          case measure => have := HG.out; have := HI.out; omega
          case rel =>
            refine ⟨i + 1 + 1, _, _, rfl, HI.out, by have := hwr'.out; simpa using this, HH.out, .inr ?_, hS4, hO4, hz4⟩
            rw [HTK.out, List.map_append, List.map_cons, List.map_nil, Lx.jn_snoc _ _ (by
              intro e
              have := congrArg List.length e
              rw [List.length_map, List.length_take, List.length_nil] at this
              have := HI.out
              omega)]
            rw [show Lib.byteCells (Lx.jn ((L.take (i + 1)).map RT.bytes) ++ 32 :: x.bytes) = Lib.byteCells (Lx.jn ((L.take (i + 1)).map RT.bytes)) ++ [.int .u8 32] ++ Lib.strCells x.s from by
              simp [Lib.byteCells, Lib.strCells, RT.bytes]]
            exact hB4
    · have hd : decide ((i : Int) < (L.length : Int)) = false := by simp only [decide_eq_false_iff_not]; omega
      have hin : i = L.length := by omega
      subst hin
      rw [List.take_length] at hval hB
      have hall : joinR L = Lx.jn (L.map RT.bytes) := by
        unfold joinR
        rw [if_pos (List.all_eq_true.2 hval)]
      have HA := Lib.hid hall
      clear hall hlt hi
      go_wp2_with fail
      refine (Tryz.Builder_String_any_k w1.heap.size w1.heap.size _ wr hB (Nat.le_of_lt hwr)).mono ?_
      rintro e w2 ⟨rfl, -, hb2, -⟩
      have hO2 : Old w w2 := hOr.below (hb2.mono hb1)
      go_wp2
      go_ret
      exact ⟨by rw [HA.out]; rfl, hO2⟩
end Go.Proofs.YtdchnjijdkgfhaaGreatDoor
