/- Names: the scanner reads a name, or a word. -/
import Derived.Test.YtdchnjijdkgfhaaGreatDoorIsWord
namespace Go.Proofs.YtdchnjijdkgfhaaGreatDoor
open Go.RowKit

theorem St.pass_part {w : World} {b : Nat} {t : ByteArray} {p : Nat} {v : Value} (h : St w b t p v) :
    Calls Tryz.prog 96 #[.pointer (some ⟨b, 0, none⟩), .func (.func 100) #[] #[]] w fun e w' => e = .returned (.tuple #[]) ∧ St w' b t (p + Lx.span Lx.part (rest t p)) v ∧ But b w w' := by
  obtain ⟨r, h1, h2, h3⟩ := h
  exact (Go.Proofs.YtdchnjijdkgfhaaGreatDoor.pass_part w b t p r h1).mono (fun e w' ⟨he, h1', hf⟩ => ⟨he, St.step h1 h2 h3 h1' hf, hf⟩)
theorem St.pass_digit {w : World} {b : Nat} {t : ByteArray} {p : Nat} {v : Value} (h : St w b t p v) :
    Calls Tryz.prog 96 #[.pointer (some ⟨b, 0, none⟩), .func (.func 83) #[] #[]] w fun e w' => e = .returned (.tuple #[]) ∧ St w' b t (p + Lx.span Lx.digit (rest t p)) v ∧ But b w w' := by
  obtain ⟨r, h1, h2, h3⟩ := h
  exact (Go.Proofs.YtdchnjijdkgfhaaGreatDoor.pass_digit w b t p r h1).mono (fun e w' ⟨he, h1', hf⟩ => ⟨he, St.step h1 h2 h3 h1' hf, hf⟩)
theorem St.pass_space {w : World} {b : Nat} {t : ByteArray} {p : Nat} {v : Value} (h : St w b t p v) :
    Calls Tryz.prog 96 #[.pointer (some ⟨b, 0, none⟩), .func (.func 97) #[] #[]] w fun e w' => e = .returned (.tuple #[]) ∧ St w' b t (p + Lx.span Lx.space (rest t p)) v ∧ But b w w' := by
  obtain ⟨r, h1, h2, h3⟩ := h
  exact (Go.Proofs.YtdchnjijdkgfhaaGreatDoor.pass_space w b t p r h1).mono (fun e w' ⟨he, h1', hf⟩ => ⟨he, St.step h1 h2 h3 h1' hf, hf⟩)
theorem St.drewN {w : World} {b : Nat} {t : ByteArray} {p : Nat} {v : Value} (h : St w b t p v) (n : Nat) : St (w.drewN n) b t p v := h.old ((Old.refl w).drewN n)
theorem St.drew {w : World} {b : Nat} {t : ByteArray} {p : Nat} {v : Value} (h : St w b t p v) : St w.drew b t p v := h.old (Old.refl w).drew
theorem St.move {w : World} {b : Nat} {t : ByteArray} {p : Nat} {v : Value} (h : St w b t p v) (q : Nat) (hq : q ≤ t.size) : St (w.setCell ⟨b, 1, none⟩ (.int .i64 q)) b t q v := by
  obtain ⟨r, h1, h2, h3⟩ := h
  exact St.step h1 h2 h3 (h1.move q hq) ((But.refl b w).setCell ⟨b, 1, none⟩ (fun _ => rfl) _)
theorem St.set4 {w : World} {b : Nat} {t : ByteArray} {p : Nat} {v : Value} (h : St w b t p v) {n : Nat} {cs : Array Value} {T : TypeId} (hn : Blk w n cs T) (hb : b ≠ n) (v0 v1 v2 v3 : Value) :
    St ((((w.setCell ⟨n, 0, none⟩ v0).setCell ⟨n, 1, none⟩ v1).setCell ⟨n, 2, none⟩ v2).setCell ⟨n, 3, none⟩ v3) b t p v :=
  h.keep (((((Fr.refl (fun k => k = n) w).setCell ⟨n, 0, none⟩ (fun _ => rfl) v0).setCell ⟨n, 1, none⟩ (fun _ => rfl) v1).setCell ⟨n, 2, none⟩ (fun _ => rfl) v2).setCell ⟨n, 3, none⟩ (fun _ => rfl) v3) hb (fun k e => by subst e; exact ⟨_, _, _, hn⟩)
theorem St.sz {w : World} {b : Nat} {t : ByteArray} {p : Nat} {v : Value} (h : St w b t p v) : t.size ≤ 140737488355328 := let ⟨_, h, _⟩ := h; h.sz
theorem St.le {w : World} {b : Nat} {t : ByteArray} {p : Nat} {v : Value} (h : St w b t p v) : p ≤ t.size := let ⟨_, h, _⟩ := h; h.le
theorem St.text {w : World} {b : Nat} {t : ByteArray} {p : Nat} {v : Value} (h : St w b t p v) : w.cell? ⟨b, 0, none⟩ = some (.string t) := let ⟨_, h, _⟩ := h; h.text
theorem St.pos {w : World} {b : Nat} {t : ByteArray} {p : Nat} {v : Value} (h : St w b t p v) : w.cell? ⟨b, 1, none⟩ = some (.int .i64 p) := let ⟨_, h, _⟩ := h; h.pos
theorem St.free {w : World} {b : Nat} {t : ByteArray} {p : Nat} {v : Value} (h : St w b t p v) (i : Nat) : w.frozen? ⟨b, i, none⟩ = false := let ⟨_, h, _⟩ := h; h.free i
/-- What the byte at the place is, by a name of one's own. -/
theorem St.peek {w : World} {b : Nat} {t : ByteArray} {p : Nat} {v : Value} (h : St w b t p v) (n : Int) (k : Nat) (hn : n = k) (hk : k ≤ 1) {c : UInt8} (hc : Hid (Lx.peek (rest t p) k = c)) :
    Calls Tryz.prog 78 #[.pointer (some ⟨b, 0, none⟩), .int .i64 n] w fun e w' => e = .returned (.int .u8 c.toNat) ∧ ∃ n, w' = w.drewN n := by
  obtain ⟨r, h1, h2, h3⟩ := h
  have h := peek_any w b t p r h1 n k hn hk
  rw [hc.out] at h
  exact h
theorem St.isWord {w : World} {b : Nat} {t : ByteArray} {p : Nat} {v : Value} (h : St w b t p v) (s : ByteArray) (hs : s.size ≤ 140737488355328) {x : Bool} (hx : Hid (Lx.isWord s.data.toList = x)) :
    Calls Tryz.prog 102 #[.pointer (some ⟨b, 0, none⟩), .string s] w fun e w' => e = .returned (.bool x) ∧ St w' b t p v ∧ But b w w' := by
  have h := isWord_any w b t p v h s hs
  rw [hx.out] at h
  exact h

theorem St.named {w : World} {b : Nat} {t : ByteArray} {p : Nat} {v : Value} (h : St w b t p v) (k s : Int) (q : Nat) (hs : s = q) (hq : q ≤ p) (hl : p - q ≤ 24) :
    Calls Tryz.prog 101 #[.pointer (some ⟨b, 0, none⟩), .int .i64 k, .int .i64 s] w fun e w' => e = .returned (tokV k 0 (t.extract q p) q) ∧ Old w w' := by
  obtain ⟨r, h1, h2, h3⟩ := h
  exact named_any w b t p r h1 k s q hs hq hl
theorem St.named_long {w : World} {b : Nat} {t : ByteArray} {p : Nat} {v : Value} (h : St w b t p v) (k s : Int) (q : Nat) (hs : s = q) (hq : q ≤ p) (hl : 24 < p - q) :
    Calls Tryz.prog 101 #[.pointer (some ⟨b, 0, none⟩), .int .i64 k, .int .i64 s] w fun e w' => e = pan q 2 ∧ Old w w' := by
  obtain ⟨r, h1, h2, h3⟩ := h
  exact Go.Proofs.YtdchnjijdkgfhaaGreatDoor.named_long w b t p r h1 k s q hs hq hl

theorem St.set1 {w : World} {b : Nat} {t : ByteArray} {p : Nat} {v : Value} (h : St w b t p v) {n : Nat} {cs : Array Value} {T : TypeId} (hn : Blk w n cs T) (hb : b ≠ n) (i : Nat) (x : Value) :
    St (w.setCell ⟨n, i, none⟩ x) b t p v :=
  h.keep ((Fr.refl (fun k => k = n) w).setCell ⟨n, i, none⟩ (fun _ => rfl) x) hb (fun k e => by subst e; exact ⟨_, _, _, hn⟩)

set_option maxHeartbeats 1000000 in
theorem name_plain (w : World) (b : Nat) (t : ByteArray) (p : Nat) (v : Value) (h : St w b t p v) (k : Int) (n : Nat) (c d : UInt8) (x : Bool)
    (hn : p + n = p + Lx.span Lx.part (rest t p)) (hc : Hid (Lx.peek (rest t (p + n)) 0 = c)) (hd : Hid (Lx.peek (rest t (p + n)) 1 = d)) (hcd : (c.toNat : Int) ≠ 39)
    (hp : p + n ≤ t.size) (hl : n ≤ 24) (hx : Hid (Lx.isWord (t.extract p (p + n)).data.toList = x)) :
    Calls Tryz.prog 80 #[.pointer (some ⟨b, 0, none⟩), .int .i64 k] w fun e w' => e = .returned (tokV (if x = true then 5 else k) 0 (t.extract p (p + n)) p) ∧ St w' b t (p + n) v ∧ But b w w' := by
  have hc0 := h.text
  have hc1 := h.pos
  have hs := h.sz
  have hle := h.le
  have hb := h.lt
  have hcd' : ((c.toNat : Int) == 39) = false := beq_eq_false_iff_ne.2 hcd
  go_enter Tryz.func80, Tryz.ntmps80
  go_wp2_with fail
  refine (h.alloc _).pass_part.mono ?_
  rw [← hn]
  rintro e w1 ⟨rfl, h1, f1⟩
  have HN := Lib.hid hn
  clear hn
  have k1 := (Blk.new' (b := w.heap.size) rfl _ _).keep f1 (show ¬ w.heap.size = b by omega)
  go_wp2_with fail
  refine (h1.peek _ 0 rfl (by omega) hc).mono ?_
  rintro e w2 ⟨rfl, nn, rfl⟩
  have hS := h1.drewN nn
  have kR := k1.drewN nn
  have FR := (((But.refl b w).alloc _).trans f1).drewN nn
  go_wp2_with fail
  refine (hS.named _ _ p rfl (by omega) (by omega)).mono ?_
  rintro e w3 ⟨rfl, f3⟩
  have h3 := hS.old f3
  have k3 := kR.keep f3 (by simp)
  have hlt3 := k3.lt
  have hb3 := h3.lt
  have hsz : (t.extract p (p + n)).size ≤ 140737488355328 := by simp; omega
  have F3 := FR.trans (f3.but b)
  go_wp2_with fail
  refine ((h3.alloc _).isWord _ hsz hx).mono ?_
  rintro e w4 ⟨rfl, h4, f4⟩
  have kb := (Blk.new' (b := w3.heap.size) rfl _ _).keep f4 (show ¬ w3.heap.size = b by omega)
  have k4 := (k3.alloc _).keep f4 (show ¬ w.heap.size = b by omega)
  obtain ⟨a0, a1, a2, a3, b0, b1, b2, b3⟩ := kb.four
  obtain ⟨c0, c1, c2, c3, g0, g1, g2, g3⟩ := k4.four
  have hne : ¬ w3.heap.size = w.heap.size := by omega
  have F4 := (F3.alloc _).trans f4
  clear f4 f3 F3
  cases x
  · go_wp2
    refine bodyPost_ret (v := tokV k 0 (t.extract p (p + n)) p) (by simp [results, Tryz.results80, go_sem, tokV, c0, c1, c2, c3]) rfl ⟨rfl, ?_, ?_⟩
    · exact h4.set4 k4 (by omega) _ _ _ _
    · exact F4.set4 (Nat.le_refl _) _ _ _ _
  · go_wp2
    have k5 := k4.other ⟨w3.heap.size, 0, none⟩ (show w.heap.size ≠ w3.heap.size by omega) (.int .i64 5)
    obtain ⟨c0, c1, c2, c3, g0, g1, g2, g3⟩ := k5.four
    refine bodyPost_ret (v := tokV 5 0 (t.extract p (p + n)) p) (by simp [results, Tryz.results80, go_sem, tokV, c0, c1, c2, c3]) rfl ⟨rfl, ?_, ?_⟩
    · exact (h4.set1 kb (by omega) 0 _).set4 k5 (by omega) _ _ _ _
    · exact (F4.setCell ⟨w3.heap.size, 0, none⟩ (fun e => absurd e (Nat.not_lt.2 (Nat.le_of_lt hlt3))) _).set4 (Nat.le_refl _) _ _ _ _

set_option maxHeartbeats 1000000 in
theorem name_plain_long (w : World) (b : Nat) (t : ByteArray) (p : Nat) (v : Value) (h : St w b t p v) (k : Int) (n : Nat) (c d : UInt8) 
    (hn : p + n = p + Lx.span Lx.part (rest t p)) (hc : Hid (Lx.peek (rest t (p + n)) 0 = c)) (hd : Hid (Lx.peek (rest t (p + n)) 1 = d)) (hcd : (c.toNat : Int) ≠ 39)
    (hp : p + n ≤ t.size) (hl : 24 < n) :
    Calls Tryz.prog 80 #[.pointer (some ⟨b, 0, none⟩), .int .i64 k] w fun e w' => e = pan p 2 ∧ But b w w' := by
  have hc0 := h.text
  have hc1 := h.pos
  have hs := h.sz
  have hle := h.le
  have hb := h.lt
  have hcd' : ((c.toNat : Int) == 39) = false := beq_eq_false_iff_ne.2 hcd
  go_enter Tryz.func80, Tryz.ntmps80
  go_wp2_with fail
  refine (h.alloc _).pass_part.mono ?_
  rw [← hn]
  rintro e w1 ⟨rfl, h1, f1⟩
  have HN := Lib.hid hn
  clear hn
  have k1 := (Blk.new' (b := w.heap.size) rfl _ _).keep f1 (show ¬ w.heap.size = b by omega)
  go_wp2_with fail
  refine (h1.peek _ 0 rfl (by omega) hc).mono ?_
  rintro e w2 ⟨rfl, nn, rfl⟩
  have hS := h1.drewN nn
  have kR := k1.drewN nn
  have FR := (((But.refl b w).alloc _).trans f1).drewN nn
  go_wp2_with fail
  refine (hS.named_long _ _ p rfl (by omega) (by omega)).mono ?_
  rintro e w3 ⟨rfl, f3⟩
  have F3 := FR.trans (f3.but b)
  clear f3 FR f1
  go_wp2
  exact ⟨rfl, rfl, F3⟩

set_option maxHeartbeats 1000000 in
theorem name_quote (w : World) (b : Nat) (t : ByteArray) (p : Nat) (v : Value) (h : St w b t p v) (k : Int) (n : Nat) (c d : UInt8) (x : Bool)
    (hn : p + n = p + Lx.span Lx.part (rest t p)) (hc : Hid (Lx.peek (rest t (p + n)) 0 = c)) (hd : Hid (Lx.peek (rest t (p + n)) 1 = d)) (hcd : (c.toNat : Int) = 39) (hdd : Hid (Lx.digit d = false))
    (hp : p + n ≤ t.size) (hl : n ≤ 24) (hx : Hid (Lx.isWord (t.extract p (p + n)).data.toList = x)) :
    Calls Tryz.prog 80 #[.pointer (some ⟨b, 0, none⟩), .int .i64 k] w fun e w' => e = .returned (tokV (if x = true then 5 else k) 0 (t.extract p (p + n)) p) ∧ St w' b t (p + n) v ∧ But b w w' := by
  have hc0 := h.text
  have hc1 := h.pos
  have hs := h.sz
  have hle := h.le
  have hb := h.lt
  have hcd' : ((c.toNat : Int) == 39) = true := beq_iff_eq.2 hcd
  have HC := Lib.hid hcd
  clear hcd
  go_enter Tryz.func80, Tryz.ntmps80
  go_wp2_with fail
  refine (h.alloc _).pass_part.mono ?_
  rw [← hn]
  rintro e w1 ⟨rfl, h1, f1⟩
  have HN := Lib.hid hn
  clear hn
  have k1 := (Blk.new' (b := w.heap.size) rfl _ _).keep f1 (show ¬ w.heap.size = b by omega)
  go_wp2_with fail
  refine (h1.peek _ 0 rfl (by omega) hc).mono ?_
  rintro e w2 ⟨rfl, nn, rfl⟩
  go_wp2_with fail
  refine ((h1.drewN nn).peek _ 1 rfl (by omega) hd).mono ?_
  rintro e w2 ⟨rfl, mm, rfl⟩
  go_wp2_with fail
  refine (isDigit_is hdd _).mono ?_
  rintro e w2 ⟨rfl, rfl⟩
  have hS := h1.drewN (nn + mm)
  have kR := k1.drewN (nn + mm)
  have FR := (((But.refl b w).alloc _).trans f1).drewN (nn + mm)
  go_wp2_with fail
  refine (hS.named _ _ p rfl (by omega) (by omega)).mono ?_
  rintro e w3 ⟨rfl, f3⟩
  have h3 := hS.old f3
  have k3 := kR.keep f3 (by simp)
  have hlt3 := k3.lt
  have hb3 := h3.lt
  have hsz : (t.extract p (p + n)).size ≤ 140737488355328 := by simp; omega
  have F3 := FR.trans (f3.but b)
  go_wp2_with fail
  refine ((h3.alloc _).isWord _ hsz hx).mono ?_
  rintro e w4 ⟨rfl, h4, f4⟩
  have kb := (Blk.new' (b := w3.heap.size) rfl _ _).keep f4 (show ¬ w3.heap.size = b by omega)
  have k4 := (k3.alloc _).keep f4 (show ¬ w.heap.size = b by omega)
  obtain ⟨a0, a1, a2, a3, b0, b1, b2, b3⟩ := kb.four
  obtain ⟨c0, c1, c2, c3, g0, g1, g2, g3⟩ := k4.four
  have hne : ¬ w3.heap.size = w.heap.size := by omega
  have F4 := (F3.alloc _).trans f4
  clear f4 f3 F3
  cases x
  · go_wp2
    refine bodyPost_ret (v := tokV k 0 (t.extract p (p + n)) p) (by simp [results, Tryz.results80, go_sem, tokV, c0, c1, c2, c3]) rfl ⟨rfl, ?_, ?_⟩
    · exact h4.set4 k4 (by omega) _ _ _ _
    · exact F4.set4 (Nat.le_refl _) _ _ _ _
  · go_wp2
    have k5 := k4.other ⟨w3.heap.size, 0, none⟩ (show w.heap.size ≠ w3.heap.size by omega) (.int .i64 5)
    obtain ⟨c0, c1, c2, c3, g0, g1, g2, g3⟩ := k5.four
    refine bodyPost_ret (v := tokV 5 0 (t.extract p (p + n)) p) (by simp [results, Tryz.results80, go_sem, tokV, c0, c1, c2, c3]) rfl ⟨rfl, ?_, ?_⟩
    · exact (h4.set1 kb (by omega) 0 _).set4 k5 (by omega) _ _ _ _
    · exact (F4.setCell ⟨w3.heap.size, 0, none⟩ (fun e => absurd e (Nat.not_lt.2 (Nat.le_of_lt hlt3))) _).set4 (Nat.le_refl _) _ _ _ _

set_option maxHeartbeats 1000000 in
theorem name_quote_long (w : World) (b : Nat) (t : ByteArray) (p : Nat) (v : Value) (h : St w b t p v) (k : Int) (n : Nat) (c d : UInt8) 
    (hn : p + n = p + Lx.span Lx.part (rest t p)) (hc : Hid (Lx.peek (rest t (p + n)) 0 = c)) (hd : Hid (Lx.peek (rest t (p + n)) 1 = d)) (hcd : (c.toNat : Int) = 39) (hdd : Hid (Lx.digit d = false))
    (hp : p + n ≤ t.size) (hl : 24 < n) :
    Calls Tryz.prog 80 #[.pointer (some ⟨b, 0, none⟩), .int .i64 k] w fun e w' => e = pan p 2 ∧ But b w w' := by
  have hc0 := h.text
  have hc1 := h.pos
  have hs := h.sz
  have hle := h.le
  have hb := h.lt
  have hcd' : ((c.toNat : Int) == 39) = true := beq_iff_eq.2 hcd
  have HC := Lib.hid hcd
  clear hcd
  go_enter Tryz.func80, Tryz.ntmps80
  go_wp2_with fail
  refine (h.alloc _).pass_part.mono ?_
  rw [← hn]
  rintro e w1 ⟨rfl, h1, f1⟩
  have HN := Lib.hid hn
  clear hn
  have k1 := (Blk.new' (b := w.heap.size) rfl _ _).keep f1 (show ¬ w.heap.size = b by omega)
  go_wp2_with fail
  refine (h1.peek _ 0 rfl (by omega) hc).mono ?_
  rintro e w2 ⟨rfl, nn, rfl⟩
  go_wp2_with fail
  refine ((h1.drewN nn).peek _ 1 rfl (by omega) hd).mono ?_
  rintro e w2 ⟨rfl, mm, rfl⟩
  go_wp2_with fail
  refine (isDigit_is hdd _).mono ?_
  rintro e w2 ⟨rfl, rfl⟩
  have hS := h1.drewN (nn + mm)
  have kR := k1.drewN (nn + mm)
  have FR := (((But.refl b w).alloc _).trans f1).drewN (nn + mm)
  go_wp2_with fail
  refine (hS.named_long _ _ p rfl (by omega) (by omega)).mono ?_
  rintro e w3 ⟨rfl, f3⟩
  have F3 := FR.trans (f3.but b)
  clear f3 FR f1
  go_wp2
  exact ⟨rfl, rfl, F3⟩

set_option maxHeartbeats 1000000 in
theorem name_digits (w : World) (b : Nat) (t : ByteArray) (p : Nat) (v : Value) (h : St w b t p v) (k : Int) (j n : Nat) (c d : UInt8) (x : Bool)
    (hn : p + j = p + Lx.span Lx.part (rest t p)) (hc : Hid (Lx.peek (rest t (p + j)) 0 = c)) (hd : Hid (Lx.peek (rest t (p + j)) 1 = d)) (hcd : (c.toNat : Int) = 39) (hdd : Hid (Lx.digit d = true)) (hj : p + n = p + j + 1 + Lx.span Lx.digit (rest t (p + j + 1))) (hlt : p + j + 1 ≤ t.size)
    (hp : p + n ≤ t.size) (hl : n ≤ 24) (hx : Hid (Lx.isWord (t.extract p (p + n)).data.toList = x)) :
    Calls Tryz.prog 80 #[.pointer (some ⟨b, 0, none⟩), .int .i64 k] w fun e w' => e = .returned (tokV (if x = true then 5 else k) 0 (t.extract p (p + n)) p) ∧ St w' b t (p + n) v ∧ But b w w' := by
  have hc0 := h.text
  have hc1 := h.pos
  have hs := h.sz
  have hle := h.le
  have hb := h.lt
  have hcd' : ((c.toNat : Int) == 39) = true := beq_iff_eq.2 hcd
  have HC := Lib.hid hcd
  clear hcd
  go_enter Tryz.func80, Tryz.ntmps80
  go_wp2_with fail
  refine (h.alloc _).pass_part.mono ?_
  rw [← hn]
  rintro e w1 ⟨rfl, h1, f1⟩
  have HN := Lib.hid hn
  clear hn
  have k1 := (Blk.new' (b := w.heap.size) rfl _ _).keep f1 (show ¬ w.heap.size = b by omega)
  go_wp2_with fail
  refine (h1.peek _ 0 rfl (by omega) hc).mono ?_
  rintro e w2 ⟨rfl, nn, rfl⟩
  go_wp2_with fail
  refine ((h1.drewN nn).peek _ 1 rfl (by omega) hd).mono ?_
  rintro e w2 ⟨rfl, mm, rfl⟩
  go_wp2_with fail
  refine (isDigit_is hdd _).mono ?_
  rintro e w2 ⟨rfl, rfl⟩
  have q0 := (h1.drewN (nn + mm)).text
  have q1 := (h1.drewN (nn + mm)).pos
  have q2 := (h1.drewN (nn + mm)).free 1
  have hj2 : ((p + j : Nat) : Int) = (p : Int) + (j : Int) := by omega
  go_wp2_with fail
  refine (((h1.drewN (nn + mm)).move (p + j + 1) hlt).pass_digit).mono ?_
  have HJ := Lib.hid hj
  clear hj
  rw [← HJ.out]
  rintro e w2 ⟨rfl, hS, f2⟩
  have kR := ((k1.drewN (nn + mm)).other ⟨b, 1, none⟩ (show w.heap.size ≠ b by omega) _).keep f2 (show ¬ w.heap.size = b by omega)
  have FR := (((((But.refl b w).alloc _).trans f1).drewN (nn + mm)).setCell ⟨b, 1, none⟩ (fun _ => rfl) _).trans f2
  clear q0 q1 q2
  go_wp2_with fail
  refine (hS.named _ _ p rfl (by omega) (by omega)).mono ?_
  rintro e w3 ⟨rfl, f3⟩
  have h3 := hS.old f3
  have k3 := kR.keep f3 (by simp)
  have hlt3 := k3.lt
  have hb3 := h3.lt
  have hsz : (t.extract p (p + n)).size ≤ 140737488355328 := by simp; omega
  have F3 := FR.trans (f3.but b)
  go_wp2_with fail
  refine ((h3.alloc _).isWord _ hsz hx).mono ?_
  rintro e w4 ⟨rfl, h4, f4⟩
  have kb := (Blk.new' (b := w3.heap.size) rfl _ _).keep f4 (show ¬ w3.heap.size = b by omega)
  have k4 := (k3.alloc _).keep f4 (show ¬ w.heap.size = b by omega)
  obtain ⟨a0, a1, a2, a3, b0, b1, b2, b3⟩ := kb.four
  obtain ⟨c0, c1, c2, c3, g0, g1, g2, g3⟩ := k4.four
  have hne : ¬ w3.heap.size = w.heap.size := by omega
  have F4 := (F3.alloc _).trans f4
  clear f4 f3 F3
  cases x
  · go_wp2
    refine bodyPost_ret (v := tokV k 0 (t.extract p (p + n)) p) (by simp [results, Tryz.results80, go_sem, tokV, c0, c1, c2, c3]) rfl ⟨rfl, ?_, ?_⟩
    · exact h4.set4 k4 (by omega) _ _ _ _
    · exact F4.set4 (Nat.le_refl _) _ _ _ _
  · go_wp2
    have k5 := k4.other ⟨w3.heap.size, 0, none⟩ (show w.heap.size ≠ w3.heap.size by omega) (.int .i64 5)
    obtain ⟨c0, c1, c2, c3, g0, g1, g2, g3⟩ := k5.four
    refine bodyPost_ret (v := tokV 5 0 (t.extract p (p + n)) p) (by simp [results, Tryz.results80, go_sem, tokV, c0, c1, c2, c3]) rfl ⟨rfl, ?_, ?_⟩
    · exact (h4.set1 kb (by omega) 0 _).set4 k5 (by omega) _ _ _ _
    · exact (F4.setCell ⟨w3.heap.size, 0, none⟩ (fun e => absurd e (Nat.not_lt.2 (Nat.le_of_lt hlt3))) _).set4 (Nat.le_refl _) _ _ _ _

set_option maxHeartbeats 1000000 in
theorem name_digits_long (w : World) (b : Nat) (t : ByteArray) (p : Nat) (v : Value) (h : St w b t p v) (k : Int) (j n : Nat) (c d : UInt8) 
    (hn : p + j = p + Lx.span Lx.part (rest t p)) (hc : Hid (Lx.peek (rest t (p + j)) 0 = c)) (hd : Hid (Lx.peek (rest t (p + j)) 1 = d)) (hcd : (c.toNat : Int) = 39) (hdd : Hid (Lx.digit d = true)) (hj : p + n = p + j + 1 + Lx.span Lx.digit (rest t (p + j + 1))) (hlt : p + j + 1 ≤ t.size)
    (hp : p + n ≤ t.size) (hl : 24 < n) :
    Calls Tryz.prog 80 #[.pointer (some ⟨b, 0, none⟩), .int .i64 k] w fun e w' => e = pan p 2 ∧ But b w w' := by
  have hc0 := h.text
  have hc1 := h.pos
  have hs := h.sz
  have hle := h.le
  have hb := h.lt
  have hcd' : ((c.toNat : Int) == 39) = true := beq_iff_eq.2 hcd
  have HC := Lib.hid hcd
  clear hcd
  go_enter Tryz.func80, Tryz.ntmps80
  go_wp2_with fail
  refine (h.alloc _).pass_part.mono ?_
  rw [← hn]
  rintro e w1 ⟨rfl, h1, f1⟩
  have HN := Lib.hid hn
  clear hn
  have k1 := (Blk.new' (b := w.heap.size) rfl _ _).keep f1 (show ¬ w.heap.size = b by omega)
  go_wp2_with fail
  refine (h1.peek _ 0 rfl (by omega) hc).mono ?_
  rintro e w2 ⟨rfl, nn, rfl⟩
  go_wp2_with fail
  refine ((h1.drewN nn).peek _ 1 rfl (by omega) hd).mono ?_
  rintro e w2 ⟨rfl, mm, rfl⟩
  go_wp2_with fail
  refine (isDigit_is hdd _).mono ?_
  rintro e w2 ⟨rfl, rfl⟩
  have q0 := (h1.drewN (nn + mm)).text
  have q1 := (h1.drewN (nn + mm)).pos
  have q2 := (h1.drewN (nn + mm)).free 1
  have hj2 : ((p + j : Nat) : Int) = (p : Int) + (j : Int) := by omega
  go_wp2_with fail
  refine (((h1.drewN (nn + mm)).move (p + j + 1) hlt).pass_digit).mono ?_
  have HJ := Lib.hid hj
  clear hj
  rw [← HJ.out]
  rintro e w2 ⟨rfl, hS, f2⟩
  have kR := ((k1.drewN (nn + mm)).other ⟨b, 1, none⟩ (show w.heap.size ≠ b by omega) _).keep f2 (show ¬ w.heap.size = b by omega)
  have FR := (((((But.refl b w).alloc _).trans f1).drewN (nn + mm)).setCell ⟨b, 1, none⟩ (fun _ => rfl) _).trans f2
  clear q0 q1 q2
  go_wp2_with fail
  refine (hS.named_long _ _ p rfl (by omega) (by omega)).mono ?_
  rintro e w3 ⟨rfl, f3⟩
  have F3 := FR.trans (f3.but b)
  clear f3 FR f1
  go_wp2
  exact ⟨rfl, rfl, F3⟩

end Go.Proofs.YtdchnjijdkgfhaaGreatDoor
