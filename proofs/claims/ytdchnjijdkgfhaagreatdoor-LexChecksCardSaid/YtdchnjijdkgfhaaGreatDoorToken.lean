/- Signs, names, variables: what the scanner makes of the bytes at its place. -/
import Derived.Test.YtdchnjijdkgfhaaGreatDoorPass
import Derived.BigRegion
namespace Go.Proofs.YtdchnjijdkgfhaaGreatDoor
open Go.RowKit

/-- A token as a value. -/
abbrev tokV (k n : Int) (s : ByteArray) (p : Int) : Value := .agg #[.int .i64 k, .int .i64 n, .string s, .int .i64 p]

set_option maxHeartbeats 400000 in
theorem sign_any (w : World) (b : Nat) (t : ByteArray) (p : Nat) (r : Array Value) (h : Sc w b t p r) (n : Int) (k : Nat) (hn : n = k) (hk : k ≤ 2) (hp : p + k ≤ t.size) :
    Calls Tryz.prog 85 #[.pointer (some ⟨b, 0, none⟩), .int .i64 n] w fun e w' => e = .returned (tokV 6 0 (t.extract p (p + k)) p) ∧ Sc w' b t (p + k) r ∧ But b w w' := by
  subst hn
  have hc0 := h.text
  have hc1 := h.pos
  have hf := h.free 1
  have hs := h.sz
  have hl := h.le
  have hb := h.blk.lt
  go_enter Tryz.func85, Tryz.ntmps85
  go_wp2
  have e2 : 0 ≤ (p : Int) + (k : Int) := by omega
  have e3 : ((p : Int) + (k : Int)).toNat = p + k := by omega
  have e4 : (p : Int) + (k : Int) ≤ t.size := by omega
  go_region
  go_wp2
  refine bodyPost_ret (v := tokV 6 0 (t.extract p (p + k)) p) (by simp [results, Tryz.results85, go_sem, tokV]) rfl ⟨rfl, ?_, ?_⟩
  · exact ((h.move (p + k) hp).alloc _).drew
  · exact (((But.refl b w).setCell ⟨b, 1, none⟩ (fun _ => rfl) _).alloc _).drew

/-- What a scanner panics with. -/
abbrev wrongV (p e : Int) : Value := .iface 89 (.agg #[.int .i64 p, .int .i64 e])
abbrev pan (p e : Int) : Ending := .panicked [{ v := wrongV p e, recovered := false }]

set_option maxHeartbeats 400000 in
theorem named_long (w : World) (b : Nat) (t : ByteArray) (p : Nat) (r : Array Value) (h : Sc w b t p r) (k s : Int) (q : Nat) (hs : s = q) (hq : q ≤ p) (hl : 24 < p - q) :
    Calls Tryz.prog 101 #[.pointer (some ⟨b, 0, none⟩), .int .i64 k, .int .i64 s] w fun e w' => e = pan q 2 ∧ Old w w' := by
  subst hs
  have hc0 := h.text
  have hc1 := h.pos
  have hz := h.sz
  have hle := h.le
  have hb := h.blk.lt
  have h1 : (24 : Int) < (p : Int) - (q : Int) := by omega
  go_enter Tryz.func101, Tryz.ntmps101
  go_wp2
  exact ⟨rfl, rfl, (Old.refl w).alloc _⟩

set_option maxHeartbeats 400000 in
theorem named_any (w : World) (b : Nat) (t : ByteArray) (p : Nat) (r : Array Value) (h : Sc w b t p r) (k s : Int) (q : Nat) (hs : s = q) (hq : q ≤ p) (hl : p - q ≤ 24) :
    Calls Tryz.prog 101 #[.pointer (some ⟨b, 0, none⟩), .int .i64 k, .int .i64 s] w fun e w' => e = .returned (tokV k 0 (t.extract q p) q) ∧ Old w w' := by
  subst hs
  have hc0 := h.text
  have hc1 := h.pos
  have hz := h.sz
  have hle := h.le
  have hb := h.blk.lt
  have h1 : (p : Int) - (q : Int) ≤ 24 := by omega
  go_enter Tryz.func101, Tryz.ntmps101
  go_wp2
  go_region
  go_wp2
  refine bodyPost_ret (v := tokV k 0 (t.extract q p) q) (by simp [results, Tryz.results101, go_sem, tokV]) rfl ⟨rfl, ?_⟩
  exact ((Old.refl w).alloc _).drew

set_option maxHeartbeats 400000 in
theorem variable_long (w : World) (b : Nat) (t : ByteArray) (p : Nat) (r : Array Value) (h : Sc w b t p r) (hp : p < t.size) (hl : 24 < 1 + Lx.span Lx.part (rest t (p + 1))) :
    Calls Tryz.prog 82 #[.pointer (some ⟨b, 0, none⟩)] w fun e w' => e = pan p 2 ∧ But b w w' := by
  have hc0 := h.text
  have hc1 := h.pos
  have hf := h.free 1
  have hz := h.sz
  have hle := h.le
  have hb := h.blk.lt
  go_enter Tryz.func82, Tryz.ntmps82
  go_wp2_with fail
  refine (pass_part _ b t (p + 1) r ((h.move (p + 1) hp).alloc _)).mono ?_
  rintro e w1 ⟨rfl, h1, f1⟩
  go_wp2_with fail
  refine (named_long w1 b t _ r h1 _ _ p rfl (by omega) (by omega)).mono ?_
  rintro e w2 ⟨rfl, f2⟩
  go_wp2
  exact ⟨rfl, rfl, ((((But.refl b w).setCell ⟨b, 1, none⟩ (fun _ => rfl) _).alloc _).trans f1).trans (f2.but b)⟩

set_option maxHeartbeats 400000 in
theorem variable_any (w : World) (b : Nat) (t : ByteArray) (p : Nat) (r : Array Value) (h : Sc w b t p r) (hp : p < t.size) (n : Nat) (hn : p + n = p + 1 + Lx.span Lx.part (rest t (p + 1))) (hl : n ≤ 24) :
    Calls Tryz.prog 82 #[.pointer (some ⟨b, 0, none⟩)] w fun e w' => e = .returned (tokV 4 0 (t.extract p (p + n)) p) ∧ Sc w' b t (p + n) r ∧ But b w w' := by
  have hc0 := h.text
  have hc1 := h.pos
  have hf := h.free 1
  have hz := h.sz
  have hle := h.le
  have hb := h.blk.lt
  go_enter Tryz.func82, Tryz.ntmps82
  go_wp2_with fail
  refine (pass_part _ b t (p + 1) r ((h.move (p + 1) hp).alloc _)).mono ?_
  rw [← hn]
  rintro e w1 ⟨rfl, h1, f1⟩
  have HN := Lib.hid hn
  clear hn
  have k1 := (Blk.new' (size_setCell _ _ _).symm _ _).keep f1 (show ¬ w.heap.size = b by omega)
  go_wp2_with fail
  refine (named_any w1 b t _ r h1 _ _ p rfl (by omega) (by omega)).mono ?_
  rintro e w2 ⟨rfl, f2⟩
  obtain ⟨c0, c1, c2, c3, g0, g1, g2, g3⟩ := (k1.keep f2 (by simp)).four
  go_wp2
  refine bodyPost_ret (v := tokV 4 0 (t.extract p (p + n)) p) (by simp [results, Tryz.results82, go_sem, tokV, c0, c1, c2, c3]) rfl ⟨rfl, ?_, ?_⟩
  · exact (h1.keep f2 (by simp)).set4 (by omega) _ _ _ _
  · exact (((((But.refl b w).setCell ⟨b, 1, none⟩ (fun _ => rfl) _).alloc _).trans f1).trans (f2.but b)).set4 (Nat.le_refl _) _ _ _ _
end Go.Proofs.YtdchnjijdkgfhaaGreatDoor
