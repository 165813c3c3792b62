/- Integers: the scanner reads one. -/
import Derived.Test.YtdchnjijdkgfhaaGreatDoorNum
namespace Go.Proofs.YtdchnjijdkgfhaaGreatDoor
open Go.RowKit

theorem St.begins_lt {w : World} {b : Nat} {t : ByteArray} {p : Nat} {v : Value} (h : St w b t p v) {c : UInt8} (hc : Lx.peek (rest t p) 0 = c) (h0 : c ≠ 0) : p < t.size := by
  rcases Nat.lt_or_ge p t.size with h' | h'
  · exact h'
  · exact absurd (hc.symm.trans (peek_out (n := 0) (by omega))) h0

theorem Number_some (s : ByteArray) (hs : s.size ≤ 140737488355328) (w : World) (hg : Gl w) (n : Int) (hn : Hid (Lx.number s.data.toList = some n)) :
    Calls Tryz.prog 28 #[.string s] w fun e w' => e = .returned (.tuple #[.int .i64 n, .int .i64 0]) ∧ Old w w' := by
  have h := Number_any s hs w hg
  rw [hn.out] at h
  exact h
theorem Number_none (s : ByteArray) (hs : s.size ≤ 140737488355328) (w : World) (hg : Gl w) (hn : Hid (Lx.number s.data.toList = none)) :
    Calls Tryz.prog 28 #[.string s] w fun e w' => e = .returned (.tuple #[.int .i64 0, .int .i64 13]) ∧ Old w w' := by
  have h := Number_any s hs w hg
  rw [hn.out] at h
  exact h

set_option maxHeartbeats 1000000 in
theorem number_plain_none (w : World) (b : Nat) (t : ByteArray) (p : Nat) (v : Value) (h : St w b t p v) (hg : Gl w) (h6 : 6 ≤ b) (m : Nat) (c d : UInt8) (hp : Hid (Lx.peek (rest t p) 0 = c)) (hc : (c.toNat : Int) ≠ 126) (hm : p + m = p + Lx.span Lx.digit (rest t p))
    (hd : Hid (Lx.peek (rest t (p + m)) 0 = d)) (hN : Hid (Lx.number (t.extract p (p + m)).data.toList = none)) :
    Calls Tryz.prog 84 #[.pointer (some ⟨b, 0, none⟩)] w fun e w' => e = pan p 13 ∧ But b w w' := by
  have hc0 := h.text
  have hc1 := h.pos
  have hs := h.sz
  have hle := h.le
  have hb := h.lt
  have hc' : ((c.toNat : Int) == 126) = false := beq_eq_false_iff_ne.2 hc
  go_enter Tryz.func84, Tryz.ntmps84
  go_wp2_with fail
  refine ((h.alloc _).peek _ 0 rfl (by omega) hp).mono ?_
  rintro e w1 ⟨rfl, nn, rfl⟩
  have HM := Lib.hid hm
  clear hm
  go_wp2_with fail
  refine (((h.alloc _).drewN nn).pass_digit).mono ?_
  rw [← HM.out]
  rintro e w1 ⟨rfl, h1, f1⟩
  have k1 := ((Blk.new' (b := w.heap.size) rfl _ _).drewN nn).keep f1 (show ¬ w.heap.size = b by omega)
  have F1 := (((But.refl b w).alloc _).drewN nn).trans f1
  have hle1 := h1.le
  have r0 := h1.text
  have r1 := h1.pos
  have hx1 : (p : Int) ≤ ((p + m : Nat) : Int) := by omega
  have hx2 : ((p + m : Nat) : Int) ≤ t.size := by omega
  go_wp2_with fail
  go_quiet (fail)
  have hsz : (t.extract p (p + m)).size ≤ 140737488355328 := by simp; omega
  have g1 : Gl (w1.drewN nq) := hg.but (F1.drewN nq) h6
  go_wp2_with fail
  refine (Number_none _ hsz _ g1 hN).mono ?_
  rintro e w2 ⟨rfl, f2⟩
  have h2 := (h1.drewN nq).old f2
  go_wp2_with fail
  refine (h2.peek _ 0 rfl (by omega) hd).mono ?_
  rintro e w3 ⟨rfl, n3, rfl⟩
  have F3 := ((F1.drewN nq).trans (f2.but b)).drewN n3
  clear f2 F1 f1
  go_wp2
  exact ⟨rfl, rfl, F3⟩

set_option maxHeartbeats 1000000 in
theorem number_plain_part (w : World) (b : Nat) (t : ByteArray) (p : Nat) (v : Value) (h : St w b t p v) (hg : Gl w) (h6 : 6 ≤ b) (m : Nat) (c d : UInt8) (hp : Hid (Lx.peek (rest t p) 0 = c)) (hc : (c.toNat : Int) ≠ 126) (hm : p + m = p + Lx.span Lx.digit (rest t p))
    (hd : Hid (Lx.peek (rest t (p + m)) 0 = d)) (i : Int) (hN : Hid (Lx.number (t.extract p (p + m)).data.toList = some i)) (hP : Hid (Lx.part d = true)) :
    Calls Tryz.prog 84 #[.pointer (some ⟨b, 0, none⟩)] w fun e w' => e = pan p 13 ∧ But b w w' := by
  have hc0 := h.text
  have hc1 := h.pos
  have hs := h.sz
  have hle := h.le
  have hb := h.lt
  have hc' : ((c.toNat : Int) == 126) = false := beq_eq_false_iff_ne.2 hc
  go_enter Tryz.func84, Tryz.ntmps84
  go_wp2_with fail
  refine ((h.alloc _).peek _ 0 rfl (by omega) hp).mono ?_
  rintro e w1 ⟨rfl, nn, rfl⟩
  have HM := Lib.hid hm
  clear hm
  go_wp2_with fail
  refine (((h.alloc _).drewN nn).pass_digit).mono ?_
  rw [← HM.out]
  rintro e w1 ⟨rfl, h1, f1⟩
  have k1 := ((Blk.new' (b := w.heap.size) rfl _ _).drewN nn).keep f1 (show ¬ w.heap.size = b by omega)
  have F1 := (((But.refl b w).alloc _).drewN nn).trans f1
  have hle1 := h1.le
  have r0 := h1.text
  have r1 := h1.pos
  have hx1 : (p : Int) ≤ ((p + m : Nat) : Int) := by omega
  have hx2 : ((p + m : Nat) : Int) ≤ t.size := by omega
  go_wp2_with fail
  go_quiet (fail)
  have hsz : (t.extract p (p + m)).size ≤ 140737488355328 := by simp; omega
  have g1 : Gl (w1.drewN nq) := hg.but (F1.drewN nq) h6
  go_wp2_with fail
  refine (Number_some _ hsz _ g1 i hN).mono ?_
  rintro e w2 ⟨rfl, f2⟩
  have h2 := (h1.drewN nq).old f2
  go_wp2_with fail
  refine (h2.peek _ 0 rfl (by omega) hd).mono ?_
  rintro e w3 ⟨rfl, n3, rfl⟩
  have F3 := ((F1.drewN nq).trans (f2.but b)).drewN n3
  clear f2 F1 f1
  go_wp2_with fail
  refine (isPart_is hP _).mono ?_
  rintro e w3 ⟨rfl, rfl⟩
  go_wp2
  exact ⟨rfl, rfl, F3⟩

set_option maxHeartbeats 1000000 in
theorem number_plain_quote (w : World) (b : Nat) (t : ByteArray) (p : Nat) (v : Value) (h : St w b t p v) (hg : Gl w) (h6 : 6 ≤ b) (m : Nat) (c d : UInt8) (hp : Hid (Lx.peek (rest t p) 0 = c)) (hc : (c.toNat : Int) ≠ 126) (hm : p + m = p + Lx.span Lx.digit (rest t p))
    (hd : Hid (Lx.peek (rest t (p + m)) 0 = d)) (i : Int) (hN : Hid (Lx.number (t.extract p (p + m)).data.toList = some i)) (hP : Hid (Lx.part d = false)) (hQ : (d.toNat : Int) = 39) :
    Calls Tryz.prog 84 #[.pointer (some ⟨b, 0, none⟩)] w fun e w' => e = pan p 13 ∧ But b w w' := by
  have hc0 := h.text
  have hc1 := h.pos
  have hs := h.sz
  have hle := h.le
  have hb := h.lt
  have hc' : ((c.toNat : Int) == 126) = false := beq_eq_false_iff_ne.2 hc
  go_enter Tryz.func84, Tryz.ntmps84
  go_wp2_with fail
  refine ((h.alloc _).peek _ 0 rfl (by omega) hp).mono ?_
  rintro e w1 ⟨rfl, nn, rfl⟩
  have HM := Lib.hid hm
  clear hm
  go_wp2_with fail
  refine (((h.alloc _).drewN nn).pass_digit).mono ?_
  rw [← HM.out]
  rintro e w1 ⟨rfl, h1, f1⟩
  have k1 := ((Blk.new' (b := w.heap.size) rfl _ _).drewN nn).keep f1 (show ¬ w.heap.size = b by omega)
  have F1 := (((But.refl b w).alloc _).drewN nn).trans f1
  have hle1 := h1.le
  have r0 := h1.text
  have r1 := h1.pos
  have hx1 : (p : Int) ≤ ((p + m : Nat) : Int) := by omega
  have hx2 : ((p + m : Nat) : Int) ≤ t.size := by omega
  go_wp2_with fail
  go_quiet (fail)
  have hsz : (t.extract p (p + m)).size ≤ 140737488355328 := by simp; omega
  have g1 : Gl (w1.drewN nq) := hg.but (F1.drewN nq) h6
  go_wp2_with fail
  have hQ' : ((d.toNat : Int) == 39) = true := beq_iff_eq.2 hQ
  have HQ := Lib.hid hQ
  clear hQ
  refine (Number_some _ hsz _ g1 i hN).mono ?_
  rintro e w2 ⟨rfl, f2⟩
  have h2 := (h1.drewN nq).old f2
  go_wp2_with fail
  refine (h2.peek _ 0 rfl (by omega) hd).mono ?_
  rintro e w3 ⟨rfl, n3, rfl⟩
  have F3 := ((F1.drewN nq).trans (f2.but b)).drewN n3
  clear f2 F1 f1
  go_wp2_with fail
  refine (isPart_is hP _).mono ?_
  rintro e w3 ⟨rfl, rfl⟩
  go_wp2
  exact ⟨rfl, rfl, F3⟩

set_option maxHeartbeats 1000000 in
theorem number_plain_any (w : World) (b : Nat) (t : ByteArray) (p : Nat) (v : Value) (h : St w b t p v) (hg : Gl w) (h6 : 6 ≤ b) (m : Nat) (c d : UInt8) (hp : Hid (Lx.peek (rest t p) 0 = c)) (hc : (c.toNat : Int) ≠ 126) (hm : p + m = p + Lx.span Lx.digit (rest t p))
    (hd : Hid (Lx.peek (rest t (p + m)) 0 = d)) (i : Int) (hN : Hid (Lx.number (t.extract p (p + m)).data.toList = some i)) (hP : Hid (Lx.part d = false)) (hQ : (d.toNat : Int) ≠ 39) :
    Calls Tryz.prog 84 #[.pointer (some ⟨b, 0, none⟩)] w fun e w' => e = .returned (tokV 1 i (t.extract p (p + m)) p) ∧ St w' b t (p + m) v ∧ But b w w' := by
  have hc0 := h.text
  have hc1 := h.pos
  have hs := h.sz
  have hle := h.le
  have hb := h.lt
  have hc' : ((c.toNat : Int) == 126) = false := beq_eq_false_iff_ne.2 hc
  go_enter Tryz.func84, Tryz.ntmps84
  go_wp2_with fail
  refine ((h.alloc _).peek _ 0 rfl (by omega) hp).mono ?_
  rintro e w1 ⟨rfl, nn, rfl⟩
  have HM := Lib.hid hm
  clear hm
  go_wp2_with fail
  refine (((h.alloc _).drewN nn).pass_digit).mono ?_
  rw [← HM.out]
  rintro e w1 ⟨rfl, h1, f1⟩
  have k1 := ((Blk.new' (b := w.heap.size) rfl _ _).drewN nn).keep f1 (show ¬ w.heap.size = b by omega)
  have F1 := (((But.refl b w).alloc _).drewN nn).trans f1
  have hle1 := h1.le
  have r0 := h1.text
  have r1 := h1.pos
  have hx1 : (p : Int) ≤ ((p + m : Nat) : Int) := by omega
  have hx2 : ((p + m : Nat) : Int) ≤ t.size := by omega
  go_wp2_with fail
  go_quiet (fail)
  have hsz : (t.extract p (p + m)).size ≤ 140737488355328 := by simp; omega
  have g1 : Gl (w1.drewN nq) := hg.but (F1.drewN nq) h6
  go_wp2_with fail
  have hQ' : ((d.toNat : Int) == 39) = false := beq_eq_false_iff_ne.2 hQ
  refine (Number_some _ hsz _ g1 i hN).mono ?_
  rintro e w2 ⟨rfl, f2⟩
  have h2 := (h1.drewN nq).old f2
  have k2 := (k1.drewN nq).keep f2 (by simp)
  go_wp2_with fail
  refine (h2.peek _ 0 rfl (by omega) hd).mono ?_
  rintro e w3 ⟨rfl, n3, rfl⟩
  have F3 := ((F1.drewN nq).trans (f2.but b)).drewN n3
  clear f2 F1 f1
  have k3 := k2.drewN n3
  have h3 := h2.drewN n3
  obtain ⟨c0, c1, c2, c3, g0, g1, g2, g3⟩ := k3.four
  go_wp2_with fail
  refine (isPart_is hP _).mono ?_
  rintro e w3 ⟨rfl, rfl⟩
  go_wp2
  refine bodyPost_ret (v := tokV 1 i (t.extract p (p + m)) p) (by simp [results, Tryz.results84, go_sem, tokV, c0, c1, c2, c3]) rfl ⟨rfl, ?_, ?_⟩
  · exact h3.set4 k3 (by omega) _ _ _ _
  · exact F3.set4 (Nat.le_refl _) _ _ _ _

set_option maxHeartbeats 1000000 in
theorem number_tilde_none (w : World) (b : Nat) (t : ByteArray) (p : Nat) (v : Value) (h : St w b t p v) (hg : Gl w) (h6 : 6 ≤ b) (m : Nat) (c d : UInt8) (hp : Hid (Lx.peek (rest t p) 0 = c)) (hc : (c.toNat : Int) = 126) (hm : p + m = p + 1 + Lx.span Lx.digit (rest t (p + 1)))
    (hd : Hid (Lx.peek (rest t (p + m)) 0 = d)) (hN : Hid (Lx.number (t.extract p (p + m)).data.toList = none)) :
    Calls Tryz.prog 84 #[.pointer (some ⟨b, 0, none⟩)] w fun e w' => e = pan p 13 ∧ But b w w' := by
  have hc0 := h.text
  have hc1 := h.pos
  have hs := h.sz
  have hle := h.le
  have hb := h.lt
  have hlt : p + 1 ≤ t.size := h.begins_lt hp.out (by rintro rfl; exact absurd hc (by decide))
  have hc' : ((c.toNat : Int) == 126) = true := beq_iff_eq.2 hc
  have HC := Lib.hid hc
  clear hc
  go_enter Tryz.func84, Tryz.ntmps84
  go_wp2_with fail
  refine ((h.alloc _).peek _ 0 rfl (by omega) hp).mono ?_
  rintro e w1 ⟨rfl, nn, rfl⟩
  have HM := Lib.hid hm
  clear hm
  have q0 := h.text
  have q1 := h.pos
  have q2 := h.free 1
  go_wp2_with fail
  refine ((((h.alloc _).drewN nn).move (p + 1) hlt).pass_digit).mono ?_
  rw [← HM.out]
  rintro e w1 ⟨rfl, h1, f1⟩
  have k1 := (((Blk.new' (b := w.heap.size) rfl _ _).drewN nn).other ⟨b, 1, none⟩ (show w.heap.size ≠ b by omega) _).keep f1 (show ¬ w.heap.size = b by omega)
  have F1 := ((((But.refl b w).alloc _).drewN nn).setCell ⟨b, 1, none⟩ (fun _ => rfl) _).trans f1
  clear q0 q1 q2
  have hle1 := h1.le
  have r0 := h1.text
  have r1 := h1.pos
  have hx1 : (p : Int) ≤ ((p + m : Nat) : Int) := by omega
  have hx2 : ((p + m : Nat) : Int) ≤ t.size := by omega
  go_wp2_with fail
  go_quiet (fail)
  have hsz : (t.extract p (p + m)).size ≤ 140737488355328 := by simp; omega
  have g1 : Gl (w1.drewN nq) := hg.but (F1.drewN nq) h6
  go_wp2_with fail
  refine (Number_none _ hsz _ g1 hN).mono ?_
  rintro e w2 ⟨rfl, f2⟩
  have h2 := (h1.drewN nq).old f2
  go_wp2_with fail
  refine (h2.peek _ 0 rfl (by omega) hd).mono ?_
  rintro e w3 ⟨rfl, n3, rfl⟩
  have F3 := ((F1.drewN nq).trans (f2.but b)).drewN n3
  clear f2 F1 f1
  go_wp2
  exact ⟨rfl, rfl, F3⟩

set_option maxHeartbeats 1000000 in
theorem number_tilde_part (w : World) (b : Nat) (t : ByteArray) (p : Nat) (v : Value) (h : St w b t p v) (hg : Gl w) (h6 : 6 ≤ b) (m : Nat) (c d : UInt8) (hp : Hid (Lx.peek (rest t p) 0 = c)) (hc : (c.toNat : Int) = 126) (hm : p + m = p + 1 + Lx.span Lx.digit (rest t (p + 1)))
    (hd : Hid (Lx.peek (rest t (p + m)) 0 = d)) (i : Int) (hN : Hid (Lx.number (t.extract p (p + m)).data.toList = some i)) (hP : Hid (Lx.part d = true)) :
    Calls Tryz.prog 84 #[.pointer (some ⟨b, 0, none⟩)] w fun e w' => e = pan p 13 ∧ But b w w' := by
  have hc0 := h.text
  have hc1 := h.pos
  have hs := h.sz
  have hle := h.le
  have hb := h.lt
  have hlt : p + 1 ≤ t.size := h.begins_lt hp.out (by rintro rfl; exact absurd hc (by decide))
  have hc' : ((c.toNat : Int) == 126) = true := beq_iff_eq.2 hc
  have HC := Lib.hid hc
  clear hc
  go_enter Tryz.func84, Tryz.ntmps84
  go_wp2_with fail
  refine ((h.alloc _).peek _ 0 rfl (by omega) hp).mono ?_
  rintro e w1 ⟨rfl, nn, rfl⟩
  have HM := Lib.hid hm
  clear hm
  have q0 := h.text
  have q1 := h.pos
  have q2 := h.free 1
  go_wp2_with fail
  refine ((((h.alloc _).drewN nn).move (p + 1) hlt).pass_digit).mono ?_
  rw [← HM.out]
  rintro e w1 ⟨rfl, h1, f1⟩
  have k1 := (((Blk.new' (b := w.heap.size) rfl _ _).drewN nn).other ⟨b, 1, none⟩ (show w.heap.size ≠ b by omega) _).keep f1 (show ¬ w.heap.size = b by omega)
  have F1 := ((((But.refl b w).alloc _).drewN nn).setCell ⟨b, 1, none⟩ (fun _ => rfl) _).trans f1
  clear q0 q1 q2
  have hle1 := h1.le
  have r0 := h1.text
  have r1 := h1.pos
  have hx1 : (p : Int) ≤ ((p + m : Nat) : Int) := by omega
  have hx2 : ((p + m : Nat) : Int) ≤ t.size := by omega
  go_wp2_with fail
  go_quiet (fail)
  have hsz : (t.extract p (p + m)).size ≤ 140737488355328 := by simp; omega
  have g1 : Gl (w1.drewN nq) := hg.but (F1.drewN nq) h6
  go_wp2_with fail
  refine (Number_some _ hsz _ g1 i hN).mono ?_
  rintro e w2 ⟨rfl, f2⟩
  have h2 := (h1.drewN nq).old f2
  go_wp2_with fail
  refine (h2.peek _ 0 rfl (by omega) hd).mono ?_
  rintro e w3 ⟨rfl, n3, rfl⟩
  have F3 := ((F1.drewN nq).trans (f2.but b)).drewN n3
  clear f2 F1 f1
  go_wp2_with fail
  refine (isPart_is hP _).mono ?_
  rintro e w3 ⟨rfl, rfl⟩
  go_wp2
  exact ⟨rfl, rfl, F3⟩

set_option maxHeartbeats 1000000 in
theorem number_tilde_quote (w : World) (b : Nat) (t : ByteArray) (p : Nat) (v : Value) (h : St w b t p v) (hg : Gl w) (h6 : 6 ≤ b) (m : Nat) (c d : UInt8) (hp : Hid (Lx.peek (rest t p) 0 = c)) (hc : (c.toNat : Int) = 126) (hm : p + m = p + 1 + Lx.span Lx.digit (rest t (p + 1)))
    (hd : Hid (Lx.peek (rest t (p + m)) 0 = d)) (i : Int) (hN : Hid (Lx.number (t.extract p (p + m)).data.toList = some i)) (hP : Hid (Lx.part d = false)) (hQ : (d.toNat : Int) = 39) :
    Calls Tryz.prog 84 #[.pointer (some ⟨b, 0, none⟩)] w fun e w' => e = pan p 13 ∧ But b w w' := by
  have hc0 := h.text
  have hc1 := h.pos
  have hs := h.sz
  have hle := h.le
  have hb := h.lt
  have hlt : p + 1 ≤ t.size := h.begins_lt hp.out (by rintro rfl; exact absurd hc (by decide))
  have hc' : ((c.toNat : Int) == 126) = true := beq_iff_eq.2 hc
  have HC := Lib.hid hc
  clear hc
  go_enter Tryz.func84, Tryz.ntmps84
  go_wp2_with fail
  refine ((h.alloc _).peek _ 0 rfl (by omega) hp).mono ?_
  rintro e w1 ⟨rfl, nn, rfl⟩
  have HM := Lib.hid hm
  clear hm
  have q0 := h.text
  have q1 := h.pos
  have q2 := h.free 1
  go_wp2_with fail
  refine ((((h.alloc _).drewN nn).move (p + 1) hlt).pass_digit).mono ?_
  rw [← HM.out]
  rintro e w1 ⟨rfl, h1, f1⟩
  have k1 := (((Blk.new' (b := w.heap.size) rfl _ _).drewN nn).other ⟨b, 1, none⟩ (show w.heap.size ≠ b by omega) _).keep f1 (show ¬ w.heap.size = b by omega)
  have F1 := ((((But.refl b w).alloc _).drewN nn).setCell ⟨b, 1, none⟩ (fun _ => rfl) _).trans f1
  clear q0 q1 q2
  have hle1 := h1.le
  have r0 := h1.text
  have r1 := h1.pos
  have hx1 : (p : Int) ≤ ((p + m : Nat) : Int) := by omega
  have hx2 : ((p + m : Nat) : Int) ≤ t.size := by omega
  go_wp2_with fail
  go_quiet (fail)
  have hsz : (t.extract p (p + m)).size ≤ 140737488355328 := by simp; omega
  have g1 : Gl (w1.drewN nq) := hg.but (F1.drewN nq) h6
  go_wp2_with fail
  have hQ' : ((d.toNat : Int) == 39) = true := beq_iff_eq.2 hQ
  have HQ := Lib.hid hQ
  clear hQ
  refine (Number_some _ hsz _ g1 i hN).mono ?_
  rintro e w2 ⟨rfl, f2⟩
  have h2 := (h1.drewN nq).old f2
  go_wp2_with fail
  refine (h2.peek _ 0 rfl (by omega) hd).mono ?_
  rintro e w3 ⟨rfl, n3, rfl⟩
  have F3 := ((F1.drewN nq).trans (f2.but b)).drewN n3
  clear f2 F1 f1
  go_wp2_with fail
  refine (isPart_is hP _).mono ?_
  rintro e w3 ⟨rfl, rfl⟩
  go_wp2
  exact ⟨rfl, rfl, F3⟩

set_option maxHeartbeats 1000000 in
theorem number_tilde_any (w : World) (b : Nat) (t : ByteArray) (p : Nat) (v : Value) (h : St w b t p v) (hg : Gl w) (h6 : 6 ≤ b) (m : Nat) (c d : UInt8) (hp : Hid (Lx.peek (rest t p) 0 = c)) (hc : (c.toNat : Int) = 126) (hm : p + m = p + 1 + Lx.span Lx.digit (rest t (p + 1)))
    (hd : Hid (Lx.peek (rest t (p + m)) 0 = d)) (i : Int) (hN : Hid (Lx.number (t.extract p (p + m)).data.toList = some i)) (hP : Hid (Lx.part d = false)) (hQ : (d.toNat : Int) ≠ 39) :
    Calls Tryz.prog 84 #[.pointer (some ⟨b, 0, none⟩)] w fun e w' => e = .returned (tokV 1 i (t.extract p (p + m)) p) ∧ St w' b t (p + m) v ∧ But b w w' := by
  have hc0 := h.text
  have hc1 := h.pos
  have hs := h.sz
  have hle := h.le
  have hb := h.lt
  have hlt : p + 1 ≤ t.size := h.begins_lt hp.out (by rintro rfl; exact absurd hc (by decide))
  have hc' : ((c.toNat : Int) == 126) = true := beq_iff_eq.2 hc
  have HC := Lib.hid hc
  clear hc
  go_enter Tryz.func84, Tryz.ntmps84
  go_wp2_with fail
  refine ((h.alloc _).peek _ 0 rfl (by omega) hp).mono ?_
  rintro e w1 ⟨rfl, nn, rfl⟩
  have HM := Lib.hid hm
  clear hm
  have q0 := h.text
  have q1 := h.pos
  have q2 := h.free 1
  go_wp2_with fail
  refine ((((h.alloc _).drewN nn).move (p + 1) hlt).pass_digit).mono ?_
  rw [← HM.out]
  rintro e w1 ⟨rfl, h1, f1⟩
  have k1 := (((Blk.new' (b := w.heap.size) rfl _ _).drewN nn).other ⟨b, 1, none⟩ (show w.heap.size ≠ b by omega) _).keep f1 (show ¬ w.heap.size = b by omega)
  have F1 := ((((But.refl b w).alloc _).drewN nn).setCell ⟨b, 1, none⟩ (fun _ => rfl) _).trans f1
  clear q0 q1 q2
  have hle1 := h1.le
  have r0 := h1.text
  have r1 := h1.pos
  have hx1 : (p : Int) ≤ ((p + m : Nat) : Int) := by omega
  have hx2 : ((p + m : Nat) : Int) ≤ t.size := by omega
  go_wp2_with fail
  go_quiet (fail)
  have hsz : (t.extract p (p + m)).size ≤ 140737488355328 := by simp; omega
  have g1 : Gl (w1.drewN nq) := hg.but (F1.drewN nq) h6
  go_wp2_with fail
  have hQ' : ((d.toNat : Int) == 39) = false := beq_eq_false_iff_ne.2 hQ
  refine (Number_some _ hsz _ g1 i hN).mono ?_
  rintro e w2 ⟨rfl, f2⟩
  have h2 := (h1.drewN nq).old f2
  have k2 := (k1.drewN nq).keep f2 (by simp)
  go_wp2_with fail
  refine (h2.peek _ 0 rfl (by omega) hd).mono ?_
  rintro e w3 ⟨rfl, n3, rfl⟩
  have F3 := ((F1.drewN nq).trans (f2.but b)).drewN n3
  clear f2 F1 f1
  have k3 := k2.drewN n3
  have h3 := h2.drewN n3
  obtain ⟨c0, c1, c2, c3, g0, g1, g2, g3⟩ := k3.four
  go_wp2_with fail
  refine (isPart_is hP _).mono ?_
  rintro e w3 ⟨rfl, rfl⟩
  go_wp2
  refine bodyPost_ret (v := tokV 1 i (t.extract p (p + m)) p) (by simp [results, Tryz.results84, go_sem, tokV, c0, c1, c2, c3]) rfl ⟨rfl, ?_, ?_⟩
  · exact h3.set4 k3 (by omega) _ _ _ _
  · exact F3.set4 (Nat.le_refl _) _ _ _ _

end Go.Proofs.YtdchnjijdkgfhaaGreatDoor
