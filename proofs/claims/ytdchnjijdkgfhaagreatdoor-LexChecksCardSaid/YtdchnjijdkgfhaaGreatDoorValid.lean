/- Tokens that are alike, and tokens that are valid. -/
import Derived.Test.YtdchnjijdkgfhaaGreatDoorStrip
namespace Go.Proofs.YtdchnjijdkgfhaaGreatDoor
open Go.RowKit

set_option maxRecDepth 100000 in
set_option maxHeartbeats 1000000 in
theorem alike_any (k n a k' n' a' : Int) (s s' : ByteArray) (w : World) :
    Calls Tryz.prog 43 #[tokV k n s a, tokV k' n' s' a'] w fun e w' => e = .returned (.bool ((k == k') && ((n == n') && (s.toList == s'.toList)))) ∧ Old w w' := by
  cases h1 : (k == k')
  · go_enter Tryz.func43, Tryz.ntmps43
    go_wp2
    go_ret
    exact ⟨rfl, ((Old.refl w).alloc _).alloc _⟩
  · cases h2 : (n == n')
    · go_enter Tryz.func43, Tryz.ntmps43
      go_wp2
      go_ret
      exact ⟨rfl, ((Old.refl w).alloc _).alloc _⟩
    · go_enter Tryz.func43, Tryz.ntmps43
      go_wp2
      go_ret
      exact ⟨rfl, ((Old.refl w).alloc _).alloc _⟩

/-- Whether a token with a kind, a number, a text and a place is valid. -/
def Lx.valid (k n : Int) (s : List UInt8) (a : Int) : Bool := match Lx.whole s with
  | some (k', n') => decide (0 ≤ a) && ((k == k') && (n == n'))
  | none => false

set_option maxRecDepth 100000 in
set_option maxHeartbeats 1000000 in
theorem valid_none (w : World) (b : Nat) (t : ByteArray) (p : Nat) (v : Value) (h : St w b t p v) (hg : Gl w) (h6 : 6 ≤ b) (k n a : Int) (s : ByteArray) (hs : s.size ≤ 140737488355328) (hW : Lx.whole s.data.toList = none) :
    Calls Tryz.prog 38 #[.pointer (some ⟨b, 0, none⟩), tokV k n s a] w fun e w' => e = .returned (.bool false) ∧ But b w w' := by
  have HW := Lib.hid hW
  clear hW
  go_enter Tryz.func38, Tryz.ntmps38
  go_wp2_with fail
  refine (whole_any _ b t p v (h.alloc _) (hg.alloc _) h6 s hs).mono ?_
  intro e w1 hP
  rw [HW.out] at hP
  obtain ⟨rfl, f1⟩ := hP
  have F1 := ((But.refl b w).alloc _).trans f1
  have kT := (Blk.new' (b := w.heap.size) rfl #[.int .i64 k, .int .i64 n, .string s, .int .i64 a] 41).keep f1 (by have := h.lt; omega)
  obtain ⟨c0, c1, c2, c3, g0, g1, g2, g3⟩ := kT.four
  have hl := kT.lt
  clear f1
  go_wp2
  go_ret
  exact ⟨rfl, F1.alloc _⟩

set_option maxRecDepth 100000 in
set_option maxHeartbeats 1000000 in
/-- How asking whether a token is valid leaves the scanner, where it is. -/
theorem valid_some (w : World) (b : Nat) (t : ByteArray) (p : Nat) (v : Value) (h : St w b t p v) (hg : Gl w) (h6 : 6 ≤ b) (k n a : Int) (s : ByteArray) (hs : s.size ≤ 140737488355328) (k' n' : Int) (hW : Lx.whole s.data.toList = some (k', n')) :
    Calls Tryz.prog 38 #[.pointer (some ⟨b, 0, none⟩), tokV k n s a] w fun e w' => e = .returned (.bool (decide (0 ≤ a) && ((k == k') && (n == n')))) ∧ St w' b s s.size v ∧ But b w w' := by
  have HW := Lib.hid hW
  clear hW
  cases ha : decide (0 ≤ a)
  · go_enter Tryz.func38, Tryz.ntmps38
    go_wp2_with fail
    refine (whole_any _ b t p v (h.alloc _) (hg.alloc _) h6 s hs).mono ?_
    intro e w1 hP
    rw [HW.out] at hP
    obtain ⟨rfl, h1, f1⟩ := hP
    have F1 := ((But.refl b w).alloc _).trans f1
    have kT := (Blk.new' (b := w.heap.size) rfl #[.int .i64 k, .int .i64 n, .string s, .int .i64 a] 41).keep f1 (by have := h.lt; omega)
    obtain ⟨c0, c1, c2, c3, g0, g1, g2, g3⟩ := kT.four
    have hl := kT.lt
    clear f1
    go_wp2
    go_ret
    exact ⟨rfl, h1.alloc _, F1.alloc _⟩
  · go_enter Tryz.func38, Tryz.ntmps38
    go_wp2_with fail
    refine (whole_any _ b t p v (h.alloc _) (hg.alloc _) h6 s hs).mono ?_
    intro e w1 hP
    rw [HW.out] at hP
    obtain ⟨rfl, h1, f1⟩ := hP
    have F1 := ((But.refl b w).alloc _).trans f1
    have kT := (Blk.new' (b := w.heap.size) rfl #[.int .i64 k, .int .i64 n, .string s, .int .i64 a] 41).keep f1 (by have := h.lt; omega)
    obtain ⟨c0, c1, c2, c3, g0, g1, g2, g3⟩ := kT.four
    have hl := kT.lt
    clear f1
    go_wp2_with fail
    refine (alike_any k n a k' n' 0 s s _).mono ?_
    rintro e w2 ⟨rfl, o2⟩
    rw [beq_self_eq_true, Bool.and_true]
    go_wp2
    go_ret
    exact ⟨rfl, (h1.alloc _).old o2, (F1.alloc _).trans (o2.but b)⟩
end Go.Proofs.YtdchnjijdkgfhaaGreatDoor
