/- A text as one token: a deferred call takes up the panic of a text that is none. -/
import Derived.Test.YtdchnjijdkgfhaaGreatDoorSkip
import Derived.Defers
import Derived.Recover
namespace Go.Proofs.YtdchnjijdkgfhaaGreatDoor
open Go.RowKit

theorem whole_idle (T O : Nat) (w : World) :
    CallsD Tryz.prog 63 #[.pointer (some ⟨T, 0, none⟩), .pointer (some ⟨O, 0, none⟩)] .returning w fun e u' w' => e = .returned (.tuple #[]) ∧ u' = .returning ∧ w' = w := by
  refine callsD_of_wpS Tryz.func63 rfl fun c₀ cs hu => ?_
  apply wpS_seq
  apply wpS_region
  simp [wpOpsS, go_sem, recoverD, hu, Tryz.ntmps63, Exit.thenS]
  refine wpS_cond (t := false) (by simp [Act.eval, Array.replicate]) ?_
  simp only [Bool.false_eq_true, if_false]
  refine wpS_of_wp (wp_skip ?_)
  cases c₀
  simp_all [bodyPostS, results, Tryz.results63]

theorem whole_catch (T O : Nat) (x0 x1 x2 x3 y : Value) (TT TO : TypeId) (u : TypeId) (pv : Value) (older : List PanicEntry) (w : World) (hT : Blk w T #[x0, x1, x2, x3] TT) (hO : Blk w O #[y] TO) (hne : O ≠ T) :
    CallsD Tryz.prog 63 #[.pointer (some ⟨T, 0, none⟩), .pointer (some ⟨O, 0, none⟩)] (.panicking ({ v := .iface u pv, recovered := false } :: older)) w fun e u' w' =>
      e = .returned (.tuple #[]) ∧ u' = .panicking ({ v := .iface u pv, recovered := true } :: older) ∧
      w' = (((((w.setCell ⟨T, 0, none⟩ (.int .i64 0)).setCell ⟨T, 1, none⟩ (.int .i64 0)).setCell ⟨T, 2, none⟩ (.string ⟨#[]⟩)).setCell ⟨T, 3, none⟩ (.int .i64 0))).setCell ⟨O, 0, none⟩ (.bool false) := by
  obtain ⟨c0, c1, c2, c3, g0, g1, g2, g3⟩ := hT.four
  have d0 := hO.cell (i := 0) (v := y) rfl
  have e0 := hO.free 0
  refine callsD_of_wpS Tryz.func63 rfl fun c₀ cs hu => ?_
  apply wpS_seq
  apply wpS_region
  simp [wpOpsS, go_sem, recoverD, hu, Tryz.ntmps63, Exit.thenS]
  refine wpS_cond (t := true) (by simp [Act.eval, Array.replicate]) ?_
  simp only [if_true]
  apply wpS_region
  simp [wpOpsS, go_sem, c0, c1, c2, c3, g0, g1, g2, g3, d0, e0, hne, bodyPostS, results, Tryz.results63]

theorem St.load {w : World} {b : Nat} {t : ByteArray} {p : Nat} {v : Value} (h : St w b t p v) (s : ByteArray) (hs : s.size ≤ 140737488355328) :
    St ((w.setCell ⟨b, 0, none⟩ (.string s)).setCell ⟨b, 1, none⟩ (.int .i64 0)) b s 0 v := by
  obtain ⟨r, h1, h2, h3⟩ := h
  have hf := ((But.refl b w).setCell ⟨b, 0, none⟩ (fun _ => rfl) (.string s)).setCell ⟨b, 1, none⟩ (fun _ => rfl) (.int .i64 0)
  refine ⟨r, ⟨?_, hs, Nat.zero_le _⟩, h2.but h1 hf, h3⟩
  have := (h1.blk.set 0 (.string s)).set 1 (.int .i64 0)
  rwa [show ((#[Value.string t, .int .i64 (p : Int)] ++ r).setIfInBounds 0 (.string s)).setIfInBounds 1 (.int .i64 0) = #[Value.string s, .int .i64 ((0 : Nat) : Int)] ++ r from by simp [Array.setIfInBounds_append]] at this

set_option maxHeartbeats 1000000 in
theorem whole_err (w : World) (b : Nat) (t : ByteArray) (p : Nat) (v : Value) (h : St w b t p v) (hg : Gl w) (h6 : 6 ≤ b) (s : ByteArray) (hs : s.size ≤ 140737488355328) (x : Int) (hN : Hid (Lx.next (rest s 0) = .err x)) :
    Calls Tryz.prog 44 #[.pointer (some ⟨b, 0, none⟩), .string s] w fun e w' => e = .returned (.tuple #[tokV 0 0 ⟨#[]⟩ 0, .bool false]) ∧ But b w w' := by
  have hmf : ∀ (fn : Fn) (first cap : Array Value) (w : World), (Instr.makeFunc fn first cap).run Tryz.prog w = .ok (.func fn first cap) w := fun _ _ _ _ => rfl
  have hc0 := h.text
  have hc1 := h.pos
  have hf0 := h.free 0
  have hf1 := h.free 1
  have hb := h.lt
  go_enter_defers Tryz.func44, Tryz.ntmps44
  go_wp2_with fail
  refine (next_all _ b s 0 v (((h.load s hs).alloc _).alloc _) (((hg.but (((But.refl b w).setCell ⟨b, 0, none⟩ (fun _ => rfl) (.string s)).setCell ⟨b, 1, none⟩ (fun _ => rfl) (.int .i64 0)) h6).alloc _).alloc _) h6).mono ?_
  rw [hN.out]
  rintro e w1 ⟨rfl, f1⟩
  have kT := ((Blk.new' (b := w.heap.size) (by rw [size_setCell, size_setCell]) _ _).alloc _).keep f1 (show ¬ w.heap.size = b by omega)
  have kO := (Blk.new' (b := w.heap.size + 1) (by rw [World.size_alloc, size_setCell, size_setCell]) _ _).keep f1 (show ¬ w.heap.size + 1 = b by omega)
  have F1 := (((((But.refl b w).setCell ⟨b, 0, none⟩ (fun _ => rfl) (.string s)).setCell ⟨b, 1, none⟩ (fun _ => rfl) (.int .i64 0)).alloc _).alloc _).trans f1
  clear f1
  go_wp2
  refine leaves_cons (f := 63) (args := #[.pointer (some ⟨w.heap.size, 0, none⟩), .pointer (some ⟨w.heap.size + 1, 0, none⟩)]) (by simp) (by simp [go_sem]) ?_
  refine (whole_catch _ _ _ _ _ _ _ _ _ _ _ _ _ kT kO (by omega)).mono ?_
  rintro e u' w2 ⟨rfl, rfl, rfl⟩
  obtain ⟨c0, c1, c2, c3, g0, g1, g2, g3⟩ := kT.four
  have d0 := kO.cell (i := 0) rfl
  have e0 := kO.free 0
  simp [Leaves, settle, results, Tryz.results44, go_sem, c0, c1, c2, c3, d0]
  exact (F1.set4 (Nat.le_refl _) _ _ _ _).setCell ⟨w.heap.size + 1, 0, none⟩ (fun e => absurd e (by simp)) _
set_option maxHeartbeats 1000000 in
theorem whole_part (w : World) (b : Nat) (t : ByteArray) (p : Nat) (v : Value) (h : St w b t p v) (hg : Gl w) (h6 : 6 ≤ b) (s : ByteArray) (hs : s.size ≤ 140737488355328) (k n : Int) (j : Nat) (hN : Hid (Lx.next (rest s 0) = .tok k n j)) (hj : Hid (decide (s.size ≤ j) = false)) :
    Calls Tryz.prog 44 #[.pointer (some ⟨b, 0, none⟩), .string s] w fun e w' => e = .returned (.tuple #[tokV 0 0 ⟨#[]⟩ 0, .bool false]) ∧ But b w w' := by
  have hmf : ∀ (fn : Fn) (first cap : Array Value) (w : World), (Instr.makeFunc fn first cap).run Tryz.prog w = .ok (.func fn first cap) w := fun _ _ _ _ => rfl
  have hc0 := h.text
  have hc1 := h.pos
  have hf0 := h.free 0
  have hf1 := h.free 1
  have hb := h.lt
  go_enter_defers Tryz.func44, Tryz.ntmps44
  go_wp2_with fail
  refine (next_all _ b s 0 v (((h.load s hs).alloc _).alloc _) (((hg.but (((But.refl b w).setCell ⟨b, 0, none⟩ (fun _ => rfl) (.string s)).setCell ⟨b, 1, none⟩ (fun _ => rfl) (.int .i64 0)) h6).alloc _).alloc _) h6).mono ?_
  rw [hN.out]
  rintro e w1 ⟨rfl, h1, f1⟩
  rw [Nat.zero_add] at h1
  have kT := ((Blk.new' (b := w.heap.size) (by rw [size_setCell, size_setCell]) _ _).alloc _).keep f1 (show ¬ w.heap.size = b by omega)
  have kO := (Blk.new' (b := w.heap.size + 1) (by rw [World.size_alloc, size_setCell, size_setCell]) _ _).keep f1 (show ¬ w.heap.size + 1 = b by omega)
  have F1 := (((((But.refl b w).setCell ⟨b, 0, none⟩ (fun _ => rfl) (.string s)).setCell ⟨b, 1, none⟩ (fun _ => rfl) (.int .i64 0)).alloc _).alloc _).trans f1
  clear f1
  have hlt1 := kO.lt
  go_wp2_with fail
  refine ((h1.alloc _).done hj).mono ?_
  rintro e w2 ⟨rfl, m, hw2⟩
  have kT2 : Blk w2 w.heap.size #[.int .i64 0, .int .i64 0, .string ⟨#[]⟩, .int .i64 0] 41 := by rw [hw2]; exact (kT.alloc _).drewN m
  have kO2 : Blk w2 (w.heap.size + 1) #[.bool false] 4 := by rw [hw2]; exact (kO.alloc _).drewN m
  have F2 : But b w w2 := by rw [hw2]; exact (F1.alloc _).drewN m
  have h2 : St w2 b s j v := by rw [hw2]; exact (h1.alloc _).drewN m
  have kN : Blk w2 w1.heap.size #[.int .i64 k, .int .i64 n, .string (s.extract 0 j), .int .i64 0] 41 := by rw [hw2]; exact (Blk.new' rfl _ _).drewN m
  have hlt2 : w1.heap.size < w2.heap.size := kN.lt
  clear hw2 kT kO h1 F1
  obtain ⟨c0, c1, c2, c3, g0, g1, g2, g3⟩ := kT2.four
  obtain ⟨n0, n1, n2, n3, -⟩ := kN.four
  have d0 := kO2.cell (i := 0) (v := .bool false) rfl
  have e0 := kO2.free 0
  have hne : ¬ w1.heap.size = w.heap.size := by omega
  have hne2 : ¬ w1.heap.size = w.heap.size + 1 := by omega
  have hne3 : ¬ w.heap.size = w1.heap.size := by omega
  have hne4 : ¬ w.heap.size + 1 = w1.heap.size := by omega
  go_wp2
  refine leaves_cons (f := 63) (args := #[.pointer (some ⟨w.heap.size, 0, none⟩), .pointer (some ⟨w.heap.size + 1, 0, none⟩)]) (by simp) (by simp [go_sem]) ?_
  refine (whole_idle _ _ _).mono ?_
  rintro e u' w3 ⟨rfl, rfl, rfl⟩
  simp [Leaves, settle, results, Tryz.results44, go_sem, c0, c1, c2, c3, d0]
  exact (F2.set4 (Nat.le_refl _) _ _ _ _).setCell ⟨w.heap.size + 1, 0, none⟩ (fun e => absurd e (by simp)) _

set_option maxHeartbeats 1000000 in
theorem whole_tok (w : World) (b : Nat) (t : ByteArray) (p : Nat) (v : Value) (h : St w b t p v) (hg : Gl w) (h6 : 6 ≤ b) (s : ByteArray) (hs : s.size ≤ 140737488355328) (k n : Int) (j : Nat) (hN : Hid (Lx.next (rest s 0) = .tok k n j)) (hj : Hid (decide (s.size ≤ j) = true)) (he : s.extract 0 j = s) :
    Calls Tryz.prog 44 #[.pointer (some ⟨b, 0, none⟩), .string s] w fun e w' => e = .returned (.tuple #[tokV k n s 0, .bool true]) ∧ St w' b s j v ∧ But b w w' := by
  have hmf : ∀ (fn : Fn) (first cap : Array Value) (w : World), (Instr.makeFunc fn first cap).run Tryz.prog w = .ok (.func fn first cap) w := fun _ _ _ _ => rfl
  have hc0 := h.text
  have hc1 := h.pos
  have hf0 := h.free 0
  have hf1 := h.free 1
  have hb := h.lt
  go_enter_defers Tryz.func44, Tryz.ntmps44
  go_wp2_with fail
  refine (next_all _ b s 0 v (((h.load s hs).alloc _).alloc _) (((hg.but (((But.refl b w).setCell ⟨b, 0, none⟩ (fun _ => rfl) (.string s)).setCell ⟨b, 1, none⟩ (fun _ => rfl) (.int .i64 0)) h6).alloc _).alloc _) h6).mono ?_
  rw [hN.out]
  rintro e w1 ⟨rfl, h1, f1⟩
  rw [Nat.zero_add] at h1
  have kT := ((Blk.new' (b := w.heap.size) (by rw [size_setCell, size_setCell]) _ _).alloc _).keep f1 (show ¬ w.heap.size = b by omega)
  have kO := (Blk.new' (b := w.heap.size + 1) (by rw [World.size_alloc, size_setCell, size_setCell]) _ _).keep f1 (show ¬ w.heap.size + 1 = b by omega)
  have F1 := (((((But.refl b w).setCell ⟨b, 0, none⟩ (fun _ => rfl) (.string s)).setCell ⟨b, 1, none⟩ (fun _ => rfl) (.int .i64 0)).alloc _).alloc _).trans f1
  clear f1
  have hlt1 := kO.lt
  go_wp2_with fail
  refine ((h1.alloc _).done hj).mono ?_
  rintro e w2 ⟨rfl, m, hw2⟩
  have kT2 : Blk w2 w.heap.size #[.int .i64 0, .int .i64 0, .string ⟨#[]⟩, .int .i64 0] 41 := by rw [hw2]; exact (kT.alloc _).drewN m
  have kO2 : Blk w2 (w.heap.size + 1) #[.bool false] 4 := by rw [hw2]; exact (kO.alloc _).drewN m
  have F2 : But b w w2 := by rw [hw2]; exact (F1.alloc _).drewN m
  have h2 : St w2 b s j v := by rw [hw2]; exact (h1.alloc _).drewN m
  have kN : Blk w2 w1.heap.size #[.int .i64 k, .int .i64 n, .string s, .int .i64 0] 41 := by rw [hw2]; exact (Blk.new' rfl _ _).drewN m
  have hlt2 : w1.heap.size < w2.heap.size := kN.lt
  clear hw2 kT kO h1 F1
  obtain ⟨c0, c1, c2, c3, g0, g1, g2, g3⟩ := kT2.four
  obtain ⟨n0, n1, n2, n3, -⟩ := kN.four
  have d0 := kO2.cell (i := 0) (v := .bool false) rfl
  have e0 := kO2.free 0
  have hne : ¬ w1.heap.size = w.heap.size := by omega
  have hne2 : ¬ w1.heap.size = w.heap.size + 1 := by omega
  have hne3 : ¬ w.heap.size = w1.heap.size := by omega
  have hne4 : ¬ w.heap.size + 1 = w1.heap.size := by omega
  go_wp2
  refine leaves_cons (f := 63) (args := #[.pointer (some ⟨w.heap.size, 0, none⟩), .pointer (some ⟨w.heap.size + 1, 0, none⟩)]) (by simp) (by simp [go_sem]) ?_
  refine (whole_idle _ _ _).mono ?_
  rintro e u' w3 ⟨rfl, rfl, rfl⟩
  simp [Leaves, settle, results, Tryz.results44, go_sem, c0, c1, c2, c3, d0]
  refine ⟨St.set1 (St.set4 h2 kT2 (by omega) _ _ _ _) (kO2.set4other (by omega) _ _ _ _) (by omega) 0 _, (F2.set4 (Nat.le_refl _) _ _ _ _).setCell ⟨w.heap.size + 1, 0, none⟩ (fun e => absurd e (by simp)) _⟩
end Go.Proofs.YtdchnjijdkgfhaaGreatDoor
