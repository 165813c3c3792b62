/- The next token: what the scanner reads at its place. -/
import Derived.Test.YtdchnjijdkgfhaaGreatDoorNextParts
import Derived.Lib.IndexLaws
namespace Go.Proofs.YtdchnjijdkgfhaaGreatDoor
open Go.RowKit

theorem indexByte_mem {l : List UInt8} {c : UInt8} : 0 ≤ Lib.indexByte l c ↔ l.contains c = true := by
  rw [List.contains_iff_mem]
  constructor
  · intro h
    obtain ⟨o, ho⟩ := Int.eq_ofNat_of_zero_le h
    exact List.mem_of_getElem? (Lib.indexByte_some ho).1
  · intro h
    rcases Int.lt_or_le (Lib.indexByte l c) 0 with h' | h'
    · have hge := Lib.indexByte_ge l c
      obtain ⟨k, hk⟩ := List.mem_iff_getElem?.1 h
      exact absurd hk (Lib.indexByte_none (by omega) k)
    · exact h'

theorem signs_any (c : UInt8) (w : World) :
    Calls Tryz.prog 50 #[.string ⟨#[40, 41, 44, 59, 58, 124, 61, 60, 43, 45, 42, 47, 37, 95]⟩, .int .u8 c.toNat] w fun e w' => e = .returned (.int .i64 (Lib.indexByte Lx.sign1 c)) ∧ w' = w := by
  have h := Tryz.strings_IndexByte ⟨#[40, 41, 44, 59, 58, 124, 61, 60, 43, 45, 42, 47, 37, 95]⟩ c.toNat w
  rw [show ((c.toNat : Int)).toNat.toUInt8 = c from by simp] at h
  exact h
theorem signs_is {c : UInt8} {z : Int} (hz : Hid (Lib.indexByte Lx.sign1 c = z)) (w : World) :
    Calls Tryz.prog 50 #[.string ⟨#[40, 41, 44, 59, 58, 124, 61, 60, 43, 45, 42, 47, 37, 95]⟩, .int .u8 c.toNat] w fun e w' => e = .returned (.int .i64 z) ∧ w' = w := by
  have h := signs_any c w
  rw [hz.out] at h
  exact h

theorem St.sign {w : World} {b : Nat} {t : ByteArray} {p : Nat} {v : Value} (h : St w b t p v) (n : Int) (k : Nat) (hn : n = k) (hk : k ≤ 2) (hp : p + k ≤ t.size) :
    Calls Tryz.prog 85 #[.pointer (some ⟨b, 0, none⟩), .int .i64 n] w fun e w' => NextPost w b t p v e w' (.tok 6 0 k) := by
  obtain ⟨r, h1, h2, h3⟩ := h
  exact (sign_any w b t p r h1 n k hn hk hp).mono (fun e w' ⟨he, hs, hf⟩ => ⟨he, St.step h1 h2 h3 hs hf, hf⟩)

set_option maxHeartbeats 1000000 in
theorem next_small (w : World) (b : Nat) (t : ByteArray) (p : Nat) (v : Value) (h : St w b t p v) (hg : Gl w) (h6 : 6 ≤ b) (c d : UInt8) (hc : Hid (Lx.peek (rest t p) 0 = c)) (hd : Hid (Lx.peek (rest t p) 1 = d)) (hsm : Hid (Lx.small c = true)) (R : Lx.Next) (hRR : Hid (R = nameK 2 (rest t p))) :
    Calls Tryz.prog 64 #[.pointer (some ⟨b, 0, none⟩)] w fun e w' => NextPost w b t p v e w' R := by
  have hc0 := h.text
  have hc1 := h.pos
  have hs := h.sz
  have hle := h.le
  have hb := h.lt
  go_enter Tryz.func64, Tryz.ntmps64
  go_wp2_with fail
  refine ((h.alloc _).peek _ 0 rfl (by omega) hc).mono ?_
  rintro e w1 ⟨rfl, n1, rfl⟩
  go_wp2_with fail
  refine (isSmall_is hsm _).mono ?_
  rintro e w1 ⟨rfl, rfl⟩
  go_wp2_with fail
  refine (name_all _ b t p v ((h.alloc _).drewN n1) 2).mono ?_
  rw [← hRR.out]
  rintro e w2 hN
  have hN' : NextPost ((w.alloc (.cells #[.int .i64 0, .int .i64 0, .string ⟨#[]⟩, .int .i64 0] 41 (0, 0))).drewN n1) b t p v e w2 R := hN
  clear hN
  cases hR : R with
  | tok k' n' j' =>
    rw [hR] at hN'
    have HR := Lib.hid hR
    clear hR
    obtain ⟨rfl, h2, f2⟩ := hN'
    have k2 := ((Blk.new' (b := w.heap.size) rfl _ _).drewN n1).keep f2 (show ¬ w.heap.size = b by omega)
    obtain ⟨c0, c1, c2, c3, g0, g1, g2, g3⟩ := k2.four
    have F2 := (((But.refl b w).alloc _).drewN n1).trans f2
    clear f2
    go_wp2
    refine bodyPost_ret (v := tokV k' n' (t.extract p (p + j')) p) (by simp [results, Tryz.results64, go_sem, tokV, c0, c1, c2, c3]) rfl (NextPost.tok HR.out ⟨rfl, ?_, ?_⟩)
    · exact h2.set4 k2 (by omega) _ _ _ _
    · exact F2.set4 (Nat.le_refl _) _ _ _ _
  | err x =>
    rw [hR] at hN'
    have HR := Lib.hid hR
    clear hR
    obtain ⟨rfl, f2⟩ := hN'
    have F2 := (((But.refl b w).alloc _).drewN n1).trans f2
    clear f2
    go_wp2
    exact ⟨rfl, NextPost.err HR.out ⟨rfl, F2⟩⟩

set_option maxHeartbeats 1000000 in
theorem next_capital (w : World) (b : Nat) (t : ByteArray) (p : Nat) (v : Value) (h : St w b t p v) (hg : Gl w) (h6 : 6 ≤ b) (c d : UInt8) (hc : Hid (Lx.peek (rest t p) 0 = c)) (hd : Hid (Lx.peek (rest t p) 1 = d)) (hsm : Hid (Lx.small c = false)) (hca : Hid (Lx.capital c = true)) (R : Lx.Next) (hRR : Hid (R = nameK 3 (rest t p))) :
    Calls Tryz.prog 64 #[.pointer (some ⟨b, 0, none⟩)] w fun e w' => NextPost w b t p v e w' R := by
  have hc0 := h.text
  have hc1 := h.pos
  have hs := h.sz
  have hle := h.le
  have hb := h.lt
  go_enter Tryz.func64, Tryz.ntmps64
  go_wp2_with fail
  refine ((h.alloc _).peek _ 0 rfl (by omega) hc).mono ?_
  rintro e w1 ⟨rfl, n1, rfl⟩
  go_wp2_with fail
  refine (isSmall_is hsm _).mono ?_
  rintro e w1 ⟨rfl, rfl⟩
  go_wp2_with fail
  refine (isCapital_is hca _).mono ?_
  rintro e w1 ⟨rfl, rfl⟩
  go_wp2_with fail
  refine (name_all _ b t p v ((h.alloc _).drewN n1) 3).mono ?_
  rw [← hRR.out]
  rintro e w2 hN
  have hN' : NextPost ((w.alloc (.cells #[.int .i64 0, .int .i64 0, .string ⟨#[]⟩, .int .i64 0] 41 (0, 0))).drewN n1) b t p v e w2 R := hN
  clear hN
  cases hR : R with
  | tok k' n' j' =>
    rw [hR] at hN'
    have HR := Lib.hid hR
    clear hR
    obtain ⟨rfl, h2, f2⟩ := hN'
    have k2 := ((Blk.new' (b := w.heap.size) rfl _ _).drewN n1).keep f2 (show ¬ w.heap.size = b by omega)
    obtain ⟨c0, c1, c2, c3, g0, g1, g2, g3⟩ := k2.four
    have F2 := (((But.refl b w).alloc _).drewN n1).trans f2
    clear f2
    go_wp2
    refine bodyPost_ret (v := tokV k' n' (t.extract p (p + j')) p) (by simp [results, Tryz.results64, go_sem, tokV, c0, c1, c2, c3]) rfl (NextPost.tok HR.out ⟨rfl, ?_, ?_⟩)
    · exact h2.set4 k2 (by omega) _ _ _ _
    · exact F2.set4 (Nat.le_refl _) _ _ _ _
  | err x =>
    rw [hR] at hN'
    have HR := Lib.hid hR
    clear hR
    obtain ⟨rfl, f2⟩ := hN'
    have F2 := (((But.refl b w).alloc _).drewN n1).trans f2
    clear f2
    go_wp2
    exact ⟨rfl, NextPost.err HR.out ⟨rfl, F2⟩⟩

set_option maxHeartbeats 1000000 in
theorem next_var (w : World) (b : Nat) (t : ByteArray) (p : Nat) (v : Value) (h : St w b t p v) (hg : Gl w) (h6 : 6 ≤ b) (c d : UInt8) (hc : Hid (Lx.peek (rest t p) 0 = c)) (hd : Hid (Lx.peek (rest t p) 1 = d)) (hsm : Hid (Lx.small c = false)) (hca : Hid (Lx.capital c = false)) (hc39 : (c.toNat : Int) = 39) (hds : Hid (Lx.small d = true)) (hp : p < t.size) (R : Lx.Next) (hRR : Hid (R = Lx.nextVar (rest t p))) :
    Calls Tryz.prog 64 #[.pointer (some ⟨b, 0, none⟩)] w fun e w' => NextPost w b t p v e w' R := by
  have hc0 := h.text
  have hc1 := h.pos
  have hs := h.sz
  have hle := h.le
  have hb := h.lt
  have ec39 : ((c.toNat : Int) == 39) = true := beq_iff_eq.2 hc39
  have Hc39 := Lib.hid hc39
  clear hc39
  go_enter Tryz.func64, Tryz.ntmps64
  go_wp2_with fail
  refine ((h.alloc _).peek _ 0 rfl (by omega) hc).mono ?_
  rintro e w1 ⟨rfl, n1, rfl⟩
  go_wp2_with fail
  refine (isSmall_is hsm _).mono ?_
  rintro e w1 ⟨rfl, rfl⟩
  go_wp2_with fail
  refine (isCapital_is hca _).mono ?_
  rintro e w1 ⟨rfl, rfl⟩
  go_wp2_with fail
  refine (((h.alloc _).drewN n1).peek _ 1 rfl (by omega) hd).mono ?_
  rintro e w1 ⟨rfl, n2, rfl⟩
  go_wp2_with fail
  refine (isSmall_is hds _).mono ?_
  rintro e w1 ⟨rfl, rfl⟩
  go_wp2_with fail
  refine (variable_all _ b t p v ((h.alloc _).drewN (n1 + n2)) hp).mono ?_
  rw [← hRR.out]
  rintro e w2 hN
  have hN' : NextPost ((w.alloc (.cells #[.int .i64 0, .int .i64 0, .string ⟨#[]⟩, .int .i64 0] 41 (0, 0))).drewN (n1 + n2)) b t p v e w2 R := hN
  clear hN
  cases hR : R with
  | tok k' n' j' =>
    rw [hR] at hN'
    have HR := Lib.hid hR
    clear hR
    obtain ⟨rfl, h2, f2⟩ := hN'
    have k2 := ((Blk.new' (b := w.heap.size) rfl _ _).drewN (n1 + n2)).keep f2 (show ¬ w.heap.size = b by omega)
    obtain ⟨c0, c1, c2, c3, g0, g1, g2, g3⟩ := k2.four
    have F2 := (((But.refl b w).alloc _).drewN (n1 + n2)).trans f2
    clear f2
    go_wp2
    refine bodyPost_ret (v := tokV k' n' (t.extract p (p + j')) p) (by simp [results, Tryz.results64, go_sem, tokV, c0, c1, c2, c3]) rfl (NextPost.tok HR.out ⟨rfl, ?_, ?_⟩)
    · exact h2.set4 k2 (by omega) _ _ _ _
    · exact F2.set4 (Nat.le_refl _) _ _ _ _
  | err x =>
    rw [hR] at hN'
    have HR := Lib.hid hR
    clear hR
    obtain ⟨rfl, f2⟩ := hN'
    have F2 := (((But.refl b w).alloc _).drewN (n1 + n2)).trans f2
    clear f2
    go_wp2
    exact ⟨rfl, NextPost.err HR.out ⟨rfl, F2⟩⟩

set_option maxHeartbeats 1000000 in
theorem next_quote (w : World) (b : Nat) (t : ByteArray) (p : Nat) (v : Value) (h : St w b t p v) (hg : Gl w) (h6 : 6 ≤ b) (c d : UInt8) (hc : Hid (Lx.peek (rest t p) 0 = c)) (hd : Hid (Lx.peek (rest t p) 1 = d)) (hsm : Hid (Lx.small c = false)) (hca : Hid (Lx.capital c = false)) (hc39 : (c.toNat : Int) = 39) (hds : Hid (Lx.small d = false)) (hdg : Hid (Lx.digit c = false)) (z : Int) (hi : Hid (Lib.indexByte Lx.sign1 c = z)) (hz : z < 0) :
    Calls Tryz.prog 64 #[.pointer (some ⟨b, 0, none⟩)] w fun e w' => e = pan p 11 ∧ But b w w' := by
  have hc0 := h.text
  have hc1 := h.pos
  have hs := h.sz
  have hle := h.le
  have hb := h.lt
  have ec39 : ((c.toNat : Int) == 39) = true := beq_iff_eq.2 hc39
  have Hc39 := Lib.hid hc39
  clear hc39
  have ec126 : ((c.toNat : Int) == 126) = false := beq_eq_false_iff_ne.2 (by rw [Hc39.out]; decide)
  have ec61 : ((c.toNat : Int) == 61) = false := beq_eq_false_iff_ne.2 (by rw [Hc39.out]; decide)
  have ec45 : ((c.toNat : Int) == 45) = false := beq_eq_false_iff_ne.2 (by rw [Hc39.out]; decide)
  go_enter Tryz.func64, Tryz.ntmps64
  go_wp2_with fail
  refine ((h.alloc _).peek _ 0 rfl (by omega) hc).mono ?_
  rintro e w1 ⟨rfl, n1, rfl⟩
  go_wp2_with fail
  refine (isSmall_is hsm _).mono ?_
  rintro e w1 ⟨rfl, rfl⟩
  go_wp2_with fail
  refine (isCapital_is hca _).mono ?_
  rintro e w1 ⟨rfl, rfl⟩
  go_wp2_with fail
  refine (((h.alloc _).drewN n1).peek _ 1 rfl (by omega) hd).mono ?_
  rintro e w1 ⟨rfl, n2, rfl⟩
  go_wp2_with fail
  refine (isSmall_is hds _).mono ?_
  rintro e w1 ⟨rfl, rfl⟩
  go_wp2_with fail
  refine (isDigit_is hdg _).mono ?_
  rintro e w1 ⟨rfl, rfl⟩
  go_wp2_with fail
  refine (signs_is hi _).mono ?_
  rintro e w1 ⟨rfl, rfl⟩
  go_wp2
  exact ⟨rfl, rfl, ((But.refl b w).alloc _).drewN (n1 + n2)⟩

set_option maxHeartbeats 1000000 in
theorem next_tilde (w : World) (b : Nat) (t : ByteArray) (p : Nat) (v : Value) (h : St w b t p v) (hg : Gl w) (h6 : 6 ≤ b) (c d : UInt8) (hc : Hid (Lx.peek (rest t p) 0 = c)) (hd : Hid (Lx.peek (rest t p) 1 = d)) (hsm : Hid (Lx.small c = false)) (hca : Hid (Lx.capital c = false)) (hc39 : ¬ (c.toNat : Int) = 39) (hc126 : (c.toNat : Int) = 126) (R : Lx.Next) (hRR : Hid (R = Lx.nextNum (rest t p))) :
    Calls Tryz.prog 64 #[.pointer (some ⟨b, 0, none⟩)] w fun e w' => NextPost w b t p v e w' R := by
  have hc0 := h.text
  have hc1 := h.pos
  have hs := h.sz
  have hle := h.le
  have hb := h.lt
  have ec39 : ((c.toNat : Int) == 39) = false := beq_eq_false_iff_ne.2 hc39
  have ec126 : ((c.toNat : Int) == 126) = true := beq_iff_eq.2 hc126
  have Hc126 := Lib.hid hc126
  clear hc126
  go_enter Tryz.func64, Tryz.ntmps64
  go_wp2_with fail
  refine ((h.alloc _).peek _ 0 rfl (by omega) hc).mono ?_
  rintro e w1 ⟨rfl, n1, rfl⟩
  go_wp2_with fail
  refine (isSmall_is hsm _).mono ?_
  rintro e w1 ⟨rfl, rfl⟩
  go_wp2_with fail
  refine (isCapital_is hca _).mono ?_
  rintro e w1 ⟨rfl, rfl⟩
  go_wp2_with fail
  refine (number_all _ b t p v ((h.alloc _).drewN n1) ((hg.alloc _).old ((Old.refl _).drewN n1)) h6).mono ?_
  rw [← hRR.out]
  rintro e w2 hN
  have hN' : NextPost ((w.alloc (.cells #[.int .i64 0, .int .i64 0, .string ⟨#[]⟩, .int .i64 0] 41 (0, 0))).drewN n1) b t p v e w2 R := hN
  clear hN
  cases hR : R with
  | tok k' n' j' =>
    rw [hR] at hN'
    have HR := Lib.hid hR
    clear hR
    obtain ⟨rfl, h2, f2⟩ := hN'
    have k2 := ((Blk.new' (b := w.heap.size) rfl _ _).drewN n1).keep f2 (show ¬ w.heap.size = b by omega)
    obtain ⟨c0, c1, c2, c3, g0, g1, g2, g3⟩ := k2.four
    have F2 := (((But.refl b w).alloc _).drewN n1).trans f2
    clear f2
    go_wp2
    refine bodyPost_ret (v := tokV k' n' (t.extract p (p + j')) p) (by simp [results, Tryz.results64, go_sem, tokV, c0, c1, c2, c3]) rfl (NextPost.tok HR.out ⟨rfl, ?_, ?_⟩)
    · exact h2.set4 k2 (by omega) _ _ _ _
    · exact F2.set4 (Nat.le_refl _) _ _ _ _
  | err x =>
    rw [hR] at hN'
    have HR := Lib.hid hR
    clear hR
    obtain ⟨rfl, f2⟩ := hN'
    have F2 := (((But.refl b w).alloc _).drewN n1).trans f2
    clear f2
    go_wp2
    exact ⟨rfl, NextPost.err HR.out ⟨rfl, F2⟩⟩

set_option maxHeartbeats 1000000 in
theorem next_digit (w : World) (b : Nat) (t : ByteArray) (p : Nat) (v : Value) (h : St w b t p v) (hg : Gl w) (h6 : 6 ≤ b) (c d : UInt8) (hc : Hid (Lx.peek (rest t p) 0 = c)) (hd : Hid (Lx.peek (rest t p) 1 = d)) (hsm : Hid (Lx.small c = false)) (hca : Hid (Lx.capital c = false)) (hc39 : ¬ (c.toNat : Int) = 39) (hc126 : ¬ (c.toNat : Int) = 126) (hdg : Hid (Lx.digit c = true)) (R : Lx.Next) (hRR : Hid (R = Lx.nextNum (rest t p))) :
    Calls Tryz.prog 64 #[.pointer (some ⟨b, 0, none⟩)] w fun e w' => NextPost w b t p v e w' R := by
  have hc0 := h.text
  have hc1 := h.pos
  have hs := h.sz
  have hle := h.le
  have hb := h.lt
  have ec39 : ((c.toNat : Int) == 39) = false := beq_eq_false_iff_ne.2 hc39
  have ec126 : ((c.toNat : Int) == 126) = false := beq_eq_false_iff_ne.2 hc126
  go_enter Tryz.func64, Tryz.ntmps64
  go_wp2_with fail
  refine ((h.alloc _).peek _ 0 rfl (by omega) hc).mono ?_
  rintro e w1 ⟨rfl, n1, rfl⟩
  go_wp2_with fail
  refine (isSmall_is hsm _).mono ?_
  rintro e w1 ⟨rfl, rfl⟩
  go_wp2_with fail
  refine (isCapital_is hca _).mono ?_
  rintro e w1 ⟨rfl, rfl⟩
  go_wp2_with fail
  refine (isDigit_is hdg _).mono ?_
  rintro e w1 ⟨rfl, rfl⟩
  go_wp2_with fail
  refine (number_all _ b t p v ((h.alloc _).drewN n1) ((hg.alloc _).old ((Old.refl _).drewN n1)) h6).mono ?_
  rw [← hRR.out]
  rintro e w2 hN
  have hN' : NextPost ((w.alloc (.cells #[.int .i64 0, .int .i64 0, .string ⟨#[]⟩, .int .i64 0] 41 (0, 0))).drewN n1) b t p v e w2 R := hN
  clear hN
  cases hR : R with
  | tok k' n' j' =>
    rw [hR] at hN'
    have HR := Lib.hid hR
    clear hR
    obtain ⟨rfl, h2, f2⟩ := hN'
    have k2 := ((Blk.new' (b := w.heap.size) rfl _ _).drewN n1).keep f2 (show ¬ w.heap.size = b by omega)
    obtain ⟨c0, c1, c2, c3, g0, g1, g2, g3⟩ := k2.four
    have F2 := (((But.refl b w).alloc _).drewN n1).trans f2
    clear f2
    go_wp2
    refine bodyPost_ret (v := tokV k' n' (t.extract p (p + j')) p) (by simp [results, Tryz.results64, go_sem, tokV, c0, c1, c2, c3]) rfl (NextPost.tok HR.out ⟨rfl, ?_, ?_⟩)
    · exact h2.set4 k2 (by omega) _ _ _ _
    · exact F2.set4 (Nat.le_refl _) _ _ _ _
  | err x =>
    rw [hR] at hN'
    have HR := Lib.hid hR
    clear hR
    obtain ⟨rfl, f2⟩ := hN'
    have F2 := (((But.refl b w).alloc _).drewN n1).trans f2
    clear f2
    go_wp2
    exact ⟨rfl, NextPost.err HR.out ⟨rfl, F2⟩⟩

set_option maxHeartbeats 1000000 in
theorem next_arrow61 (w : World) (b : Nat) (t : ByteArray) (p : Nat) (v : Value) (h : St w b t p v) (hg : Gl w) (h6 : 6 ≤ b) (c d : UInt8) (hc : Hid (Lx.peek (rest t p) 0 = c)) (hd : Hid (Lx.peek (rest t p) 1 = d)) (hsm : Hid (Lx.small c = false)) (hca : Hid (Lx.capital c = false)) (hc39 : ¬ (c.toNat : Int) = 39) (hc126 : ¬ (c.toNat : Int) = 126) (hdg : Hid (Lx.digit c = false)) (hc61 : (c.toNat : Int) = 61) (hd62 : (d.toNat : Int) = 62) (hp : p + 2 ≤ t.size) (R : Lx.Next) (hRR : Hid (R = .tok 6 0 2)) :
    Calls Tryz.prog 64 #[.pointer (some ⟨b, 0, none⟩)] w fun e w' => NextPost w b t p v e w' R := by
  have hc0 := h.text
  have hc1 := h.pos
  have hs := h.sz
  have hle := h.le
  have hb := h.lt
  have ec39 : ((c.toNat : Int) == 39) = false := beq_eq_false_iff_ne.2 hc39
  have ec126 : ((c.toNat : Int) == 126) = false := beq_eq_false_iff_ne.2 hc126
  have ec61 : ((c.toNat : Int) == 61) = true := beq_iff_eq.2 hc61
  have Hc61 := Lib.hid hc61
  clear hc61
  have ed62 : ((d.toNat : Int) == 62) = true := beq_iff_eq.2 hd62
  have Hd62 := Lib.hid hd62
  clear hd62
  go_enter Tryz.func64, Tryz.ntmps64
  go_wp2_with fail
  refine ((h.alloc _).peek _ 0 rfl (by omega) hc).mono ?_
  rintro e w1 ⟨rfl, n1, rfl⟩
  go_wp2_with fail
  refine (isSmall_is hsm _).mono ?_
  rintro e w1 ⟨rfl, rfl⟩
  go_wp2_with fail
  refine (isCapital_is hca _).mono ?_
  rintro e w1 ⟨rfl, rfl⟩
  go_wp2_with fail
  refine (isDigit_is hdg _).mono ?_
  rintro e w1 ⟨rfl, rfl⟩
  go_wp2_with fail
  refine (((h.alloc _).drewN n1).peek _ 1 rfl (by omega) hd).mono ?_
  rintro e w1 ⟨rfl, n2, rfl⟩
  go_wp2_with fail
  refine (((h.alloc _).drewN (n1 + n2)).sign _ 2 rfl (by omega) hp).mono ?_
  rw [← hRR.out]
  rintro e w2 hN
  have hN' : NextPost ((w.alloc (.cells #[.int .i64 0, .int .i64 0, .string ⟨#[]⟩, .int .i64 0] 41 (0, 0))).drewN (n1 + n2)) b t p v e w2 R := hN
  clear hN
  cases hR : R with
  | tok k' n' j' =>
    rw [hR] at hN'
    have HR := Lib.hid hR
    clear hR
    obtain ⟨rfl, h2, f2⟩ := hN'
    have k2 := ((Blk.new' (b := w.heap.size) rfl _ _).drewN (n1 + n2)).keep f2 (show ¬ w.heap.size = b by omega)
    obtain ⟨c0, c1, c2, c3, g0, g1, g2, g3⟩ := k2.four
    have F2 := (((But.refl b w).alloc _).drewN (n1 + n2)).trans f2
    clear f2
    go_wp2
    refine bodyPost_ret (v := tokV k' n' (t.extract p (p + j')) p) (by simp [results, Tryz.results64, go_sem, tokV, c0, c1, c2, c3]) rfl (NextPost.tok HR.out ⟨rfl, ?_, ?_⟩)
    · exact h2.set4 k2 (by omega) _ _ _ _
    · exact F2.set4 (Nat.le_refl _) _ _ _ _
  | err x =>
    rw [hR] at hN'
    have HR := Lib.hid hR
    clear hR
    obtain ⟨rfl, f2⟩ := hN'
    have F2 := (((But.refl b w).alloc _).drewN (n1 + n2)).trans f2
    clear f2
    go_wp2
    exact ⟨rfl, NextPost.err HR.out ⟨rfl, F2⟩⟩

set_option maxHeartbeats 1000000 in
theorem next_arrow45 (w : World) (b : Nat) (t : ByteArray) (p : Nat) (v : Value) (h : St w b t p v) (hg : Gl w) (h6 : 6 ≤ b) (c d : UInt8) (hc : Hid (Lx.peek (rest t p) 0 = c)) (hd : Hid (Lx.peek (rest t p) 1 = d)) (hsm : Hid (Lx.small c = false)) (hca : Hid (Lx.capital c = false)) (hc39 : ¬ (c.toNat : Int) = 39) (hc126 : ¬ (c.toNat : Int) = 126) (hdg : Hid (Lx.digit c = false)) (hc61 : ¬ (c.toNat : Int) = 61) (hc45 : (c.toNat : Int) = 45) (hd62 : (d.toNat : Int) = 62) (hp : p + 2 ≤ t.size) (R : Lx.Next) (hRR : Hid (R = .tok 6 0 2)) :
    Calls Tryz.prog 64 #[.pointer (some ⟨b, 0, none⟩)] w fun e w' => NextPost w b t p v e w' R := by
  have hc0 := h.text
  have hc1 := h.pos
  have hs := h.sz
  have hle := h.le
  have hb := h.lt
  have ec39 : ((c.toNat : Int) == 39) = false := beq_eq_false_iff_ne.2 hc39
  have ec126 : ((c.toNat : Int) == 126) = false := beq_eq_false_iff_ne.2 hc126
  have ec61 : ((c.toNat : Int) == 61) = false := beq_eq_false_iff_ne.2 hc61
  have ec45 : ((c.toNat : Int) == 45) = true := beq_iff_eq.2 hc45
  have Hc45 := Lib.hid hc45
  clear hc45
  have ed62 : ((d.toNat : Int) == 62) = true := beq_iff_eq.2 hd62
  have Hd62 := Lib.hid hd62
  clear hd62
  go_enter Tryz.func64, Tryz.ntmps64
  go_wp2_with fail
  refine ((h.alloc _).peek _ 0 rfl (by omega) hc).mono ?_
  rintro e w1 ⟨rfl, n1, rfl⟩
  go_wp2_with fail
  refine (isSmall_is hsm _).mono ?_
  rintro e w1 ⟨rfl, rfl⟩
  go_wp2_with fail
  refine (isCapital_is hca _).mono ?_
  rintro e w1 ⟨rfl, rfl⟩
  go_wp2_with fail
  refine (isDigit_is hdg _).mono ?_
  rintro e w1 ⟨rfl, rfl⟩
  go_wp2_with fail
  refine (((h.alloc _).drewN n1).peek _ 1 rfl (by omega) hd).mono ?_
  rintro e w1 ⟨rfl, n2, rfl⟩
  go_wp2_with fail
  refine (((h.alloc _).drewN (n1 + n2)).sign _ 2 rfl (by omega) hp).mono ?_
  rw [← hRR.out]
  rintro e w2 hN
  have hN' : NextPost ((w.alloc (.cells #[.int .i64 0, .int .i64 0, .string ⟨#[]⟩, .int .i64 0] 41 (0, 0))).drewN (n1 + n2)) b t p v e w2 R := hN
  clear hN
  cases hR : R with
  | tok k' n' j' =>
    rw [hR] at hN'
    have HR := Lib.hid hR
    clear hR
    obtain ⟨rfl, h2, f2⟩ := hN'
    have k2 := ((Blk.new' (b := w.heap.size) rfl _ _).drewN (n1 + n2)).keep f2 (show ¬ w.heap.size = b by omega)
    obtain ⟨c0, c1, c2, c3, g0, g1, g2, g3⟩ := k2.four
    have F2 := (((But.refl b w).alloc _).drewN (n1 + n2)).trans f2
    clear f2
    go_wp2
    refine bodyPost_ret (v := tokV k' n' (t.extract p (p + j')) p) (by simp [results, Tryz.results64, go_sem, tokV, c0, c1, c2, c3]) rfl (NextPost.tok HR.out ⟨rfl, ?_, ?_⟩)
    · exact h2.set4 k2 (by omega) _ _ _ _
    · exact F2.set4 (Nat.le_refl _) _ _ _ _
  | err x =>
    rw [hR] at hN'
    have HR := Lib.hid hR
    clear hR
    obtain ⟨rfl, f2⟩ := hN'
    have F2 := (((But.refl b w).alloc _).drewN (n1 + n2)).trans f2
    clear f2
    go_wp2
    exact ⟨rfl, NextPost.err HR.out ⟨rfl, F2⟩⟩

set_option maxHeartbeats 1000000 in
theorem next_one61 (w : World) (b : Nat) (t : ByteArray) (p : Nat) (v : Value) (h : St w b t p v) (hg : Gl w) (h6 : 6 ≤ b) (c d : UInt8) (hc : Hid (Lx.peek (rest t p) 0 = c)) (hd : Hid (Lx.peek (rest t p) 1 = d)) (hsm : Hid (Lx.small c = false)) (hca : Hid (Lx.capital c = false)) (hc39 : ¬ (c.toNat : Int) = 39) (hc126 : ¬ (c.toNat : Int) = 126) (hdg : Hid (Lx.digit c = false)) (hc61 : (c.toNat : Int) = 61) (hd62 : ¬ (d.toNat : Int) = 62) (z : Int) (hi : Hid (Lib.indexByte Lx.sign1 c = z)) (hz : 0 ≤ z) (hp : p + 1 ≤ t.size) (R : Lx.Next) (hRR : Hid (R = .tok 6 0 1)) :
    Calls Tryz.prog 64 #[.pointer (some ⟨b, 0, none⟩)] w fun e w' => NextPost w b t p v e w' R := by
  have hc0 := h.text
  have hc1 := h.pos
  have hs := h.sz
  have hle := h.le
  have hb := h.lt
  have ec39 : ((c.toNat : Int) == 39) = false := beq_eq_false_iff_ne.2 hc39
  have ec126 : ((c.toNat : Int) == 126) = false := beq_eq_false_iff_ne.2 hc126
  have ec61 : ((c.toNat : Int) == 61) = true := beq_iff_eq.2 hc61
  have Hc61 := Lib.hid hc61
  clear hc61
  have ed62 : ((d.toNat : Int) == 62) = false := beq_eq_false_iff_ne.2 hd62
  go_enter Tryz.func64, Tryz.ntmps64
  go_wp2_with fail
  refine ((h.alloc _).peek _ 0 rfl (by omega) hc).mono ?_
  rintro e w1 ⟨rfl, n1, rfl⟩
  go_wp2_with fail
  refine (isSmall_is hsm _).mono ?_
  rintro e w1 ⟨rfl, rfl⟩
  go_wp2_with fail
  refine (isCapital_is hca _).mono ?_
  rintro e w1 ⟨rfl, rfl⟩
  go_wp2_with fail
  refine (isDigit_is hdg _).mono ?_
  rintro e w1 ⟨rfl, rfl⟩
  go_wp2_with fail
  refine (((h.alloc _).drewN n1).peek _ 1 rfl (by omega) hd).mono ?_
  rintro e w1 ⟨rfl, n2, rfl⟩
  go_wp2_with fail
  refine (signs_is hi _).mono ?_
  rintro e w1 ⟨rfl, rfl⟩
  go_wp2_with fail
  refine (((h.alloc _).drewN (n1 + n2)).sign _ 1 rfl (by omega) hp).mono ?_
  rw [← hRR.out]
  rintro e w2 hN
  have hN' : NextPost ((w.alloc (.cells #[.int .i64 0, .int .i64 0, .string ⟨#[]⟩, .int .i64 0] 41 (0, 0))).drewN (n1 + n2)) b t p v e w2 R := hN
  clear hN
  cases hR : R with
  | tok k' n' j' =>
    rw [hR] at hN'
    have HR := Lib.hid hR
    clear hR
    obtain ⟨rfl, h2, f2⟩ := hN'
    have k2 := ((Blk.new' (b := w.heap.size) rfl _ _).drewN (n1 + n2)).keep f2 (show ¬ w.heap.size = b by omega)
    obtain ⟨c0, c1, c2, c3, g0, g1, g2, g3⟩ := k2.four
    have F2 := (((But.refl b w).alloc _).drewN (n1 + n2)).trans f2
    clear f2
    go_wp2
    refine bodyPost_ret (v := tokV k' n' (t.extract p (p + j')) p) (by simp [results, Tryz.results64, go_sem, tokV, c0, c1, c2, c3]) rfl (NextPost.tok HR.out ⟨rfl, ?_, ?_⟩)
    · exact h2.set4 k2 (by omega) _ _ _ _
    · exact F2.set4 (Nat.le_refl _) _ _ _ _
  | err x =>
    rw [hR] at hN'
    have HR := Lib.hid hR
    clear hR
    obtain ⟨rfl, f2⟩ := hN'
    have F2 := (((But.refl b w).alloc _).drewN (n1 + n2)).trans f2
    clear f2
    go_wp2
    exact ⟨rfl, NextPost.err HR.out ⟨rfl, F2⟩⟩

set_option maxHeartbeats 1000000 in
theorem next_one45 (w : World) (b : Nat) (t : ByteArray) (p : Nat) (v : Value) (h : St w b t p v) (hg : Gl w) (h6 : 6 ≤ b) (c d : UInt8) (hc : Hid (Lx.peek (rest t p) 0 = c)) (hd : Hid (Lx.peek (rest t p) 1 = d)) (hsm : Hid (Lx.small c = false)) (hca : Hid (Lx.capital c = false)) (hc39 : ¬ (c.toNat : Int) = 39) (hc126 : ¬ (c.toNat : Int) = 126) (hdg : Hid (Lx.digit c = false)) (hc61 : ¬ (c.toNat : Int) = 61) (hc45 : (c.toNat : Int) = 45) (hd62 : ¬ (d.toNat : Int) = 62) (z : Int) (hi : Hid (Lib.indexByte Lx.sign1 c = z)) (hz : 0 ≤ z) (hp : p + 1 ≤ t.size) (R : Lx.Next) (hRR : Hid (R = .tok 6 0 1)) :
    Calls Tryz.prog 64 #[.pointer (some ⟨b, 0, none⟩)] w fun e w' => NextPost w b t p v e w' R := by
  have hc0 := h.text
  have hc1 := h.pos
  have hs := h.sz
  have hle := h.le
  have hb := h.lt
  have ec39 : ((c.toNat : Int) == 39) = false := beq_eq_false_iff_ne.2 hc39
  have ec126 : ((c.toNat : Int) == 126) = false := beq_eq_false_iff_ne.2 hc126
  have ec61 : ((c.toNat : Int) == 61) = false := beq_eq_false_iff_ne.2 hc61
  have ec45 : ((c.toNat : Int) == 45) = true := beq_iff_eq.2 hc45
  have Hc45 := Lib.hid hc45
  clear hc45
  have ed62 : ((d.toNat : Int) == 62) = false := beq_eq_false_iff_ne.2 hd62
  go_enter Tryz.func64, Tryz.ntmps64
  go_wp2_with fail
  refine ((h.alloc _).peek _ 0 rfl (by omega) hc).mono ?_
  rintro e w1 ⟨rfl, n1, rfl⟩
  go_wp2_with fail
  refine (isSmall_is hsm _).mono ?_
  rintro e w1 ⟨rfl, rfl⟩
  go_wp2_with fail
  refine (isCapital_is hca _).mono ?_
  rintro e w1 ⟨rfl, rfl⟩
  go_wp2_with fail
  refine (isDigit_is hdg _).mono ?_
  rintro e w1 ⟨rfl, rfl⟩
  go_wp2_with fail
  refine (((h.alloc _).drewN n1).peek _ 1 rfl (by omega) hd).mono ?_
  rintro e w1 ⟨rfl, n2, rfl⟩
  go_wp2_with fail
  refine (signs_is hi _).mono ?_
  rintro e w1 ⟨rfl, rfl⟩
  go_wp2_with fail
  refine (((h.alloc _).drewN (n1 + n2)).sign _ 1 rfl (by omega) hp).mono ?_
  rw [← hRR.out]
  rintro e w2 hN
  have hN' : NextPost ((w.alloc (.cells #[.int .i64 0, .int .i64 0, .string ⟨#[]⟩, .int .i64 0] 41 (0, 0))).drewN (n1 + n2)) b t p v e w2 R := hN
  clear hN
  cases hR : R with
  | tok k' n' j' =>
    rw [hR] at hN'
    have HR := Lib.hid hR
    clear hR
    obtain ⟨rfl, h2, f2⟩ := hN'
    have k2 := ((Blk.new' (b := w.heap.size) rfl _ _).drewN (n1 + n2)).keep f2 (show ¬ w.heap.size = b by omega)
    obtain ⟨c0, c1, c2, c3, g0, g1, g2, g3⟩ := k2.four
    have F2 := (((But.refl b w).alloc _).drewN (n1 + n2)).trans f2
    clear f2
    go_wp2
    refine bodyPost_ret (v := tokV k' n' (t.extract p (p + j')) p) (by simp [results, Tryz.results64, go_sem, tokV, c0, c1, c2, c3]) rfl (NextPost.tok HR.out ⟨rfl, ?_, ?_⟩)
    · exact h2.set4 k2 (by omega) _ _ _ _
    · exact F2.set4 (Nat.le_refl _) _ _ _ _
  | err x =>
    rw [hR] at hN'
    have HR := Lib.hid hR
    clear hR
    obtain ⟨rfl, f2⟩ := hN'
    have F2 := (((But.refl b w).alloc _).drewN (n1 + n2)).trans f2
    clear f2
    go_wp2
    exact ⟨rfl, NextPost.err HR.out ⟨rfl, F2⟩⟩

set_option maxHeartbeats 1000000 in
theorem next_one (w : World) (b : Nat) (t : ByteArray) (p : Nat) (v : Value) (h : St w b t p v) (hg : Gl w) (h6 : 6 ≤ b) (c d : UInt8) (hc : Hid (Lx.peek (rest t p) 0 = c)) (hd : Hid (Lx.peek (rest t p) 1 = d)) (hsm : Hid (Lx.small c = false)) (hca : Hid (Lx.capital c = false)) (hc39 : ¬ (c.toNat : Int) = 39) (hc126 : ¬ (c.toNat : Int) = 126) (hdg : Hid (Lx.digit c = false)) (hc61 : ¬ (c.toNat : Int) = 61) (hc45 : ¬ (c.toNat : Int) = 45) (z : Int) (hi : Hid (Lib.indexByte Lx.sign1 c = z)) (hz : 0 ≤ z) (hp : p + 1 ≤ t.size) (R : Lx.Next) (hRR : Hid (R = .tok 6 0 1)) :
    Calls Tryz.prog 64 #[.pointer (some ⟨b, 0, none⟩)] w fun e w' => NextPost w b t p v e w' R := by
  have hc0 := h.text
  have hc1 := h.pos
  have hs := h.sz
  have hle := h.le
  have hb := h.lt
  have ec39 : ((c.toNat : Int) == 39) = false := beq_eq_false_iff_ne.2 hc39
  have ec126 : ((c.toNat : Int) == 126) = false := beq_eq_false_iff_ne.2 hc126
  have ec61 : ((c.toNat : Int) == 61) = false := beq_eq_false_iff_ne.2 hc61
  have ec45 : ((c.toNat : Int) == 45) = false := beq_eq_false_iff_ne.2 hc45
  go_enter Tryz.func64, Tryz.ntmps64
  go_wp2_with fail
  refine ((h.alloc _).peek _ 0 rfl (by omega) hc).mono ?_
  rintro e w1 ⟨rfl, n1, rfl⟩
  go_wp2_with fail
  refine (isSmall_is hsm _).mono ?_
  rintro e w1 ⟨rfl, rfl⟩
  go_wp2_with fail
  refine (isCapital_is hca _).mono ?_
  rintro e w1 ⟨rfl, rfl⟩
  go_wp2_with fail
  refine (isDigit_is hdg _).mono ?_
  rintro e w1 ⟨rfl, rfl⟩
  go_wp2_with fail
  refine (signs_is hi _).mono ?_
  rintro e w1 ⟨rfl, rfl⟩
  go_wp2_with fail
  refine (((h.alloc _).drewN n1).sign _ 1 rfl (by omega) hp).mono ?_
  rw [← hRR.out]
  rintro e w2 hN
  have hN' : NextPost ((w.alloc (.cells #[.int .i64 0, .int .i64 0, .string ⟨#[]⟩, .int .i64 0] 41 (0, 0))).drewN n1) b t p v e w2 R := hN
  clear hN
  cases hR : R with
  | tok k' n' j' =>
    rw [hR] at hN'
    have HR := Lib.hid hR
    clear hR
    obtain ⟨rfl, h2, f2⟩ := hN'
    have k2 := ((Blk.new' (b := w.heap.size) rfl _ _).drewN n1).keep f2 (show ¬ w.heap.size = b by omega)
    obtain ⟨c0, c1, c2, c3, g0, g1, g2, g3⟩ := k2.four
    have F2 := (((But.refl b w).alloc _).drewN n1).trans f2
    clear f2
    go_wp2
    refine bodyPost_ret (v := tokV k' n' (t.extract p (p + j')) p) (by simp [results, Tryz.results64, go_sem, tokV, c0, c1, c2, c3]) rfl (NextPost.tok HR.out ⟨rfl, ?_, ?_⟩)
    · exact h2.set4 k2 (by omega) _ _ _ _
    · exact F2.set4 (Nat.le_refl _) _ _ _ _
  | err x =>
    rw [hR] at hN'
    have HR := Lib.hid hR
    clear hR
    obtain ⟨rfl, f2⟩ := hN'
    have F2 := (((But.refl b w).alloc _).drewN n1).trans f2
    clear f2
    go_wp2
    exact ⟨rfl, NextPost.err HR.out ⟨rfl, F2⟩⟩

set_option maxHeartbeats 1000000 in
theorem next_byte (w : World) (b : Nat) (t : ByteArray) (p : Nat) (v : Value) (h : St w b t p v) (hg : Gl w) (h6 : 6 ≤ b) (c d : UInt8) (hc : Hid (Lx.peek (rest t p) 0 = c)) (hd : Hid (Lx.peek (rest t p) 1 = d)) (hsm : Hid (Lx.small c = false)) (hca : Hid (Lx.capital c = false)) (hc39 : ¬ (c.toNat : Int) = 39) (hc126 : ¬ (c.toNat : Int) = 126) (hdg : Hid (Lx.digit c = false)) (hc61 : ¬ (c.toNat : Int) = 61) (hc45 : ¬ (c.toNat : Int) = 45) (z : Int) (hi : Hid (Lib.indexByte Lx.sign1 c = z)) (hz : z < 0) :
    Calls Tryz.prog 64 #[.pointer (some ⟨b, 0, none⟩)] w fun e w' => e = pan p 11 ∧ But b w w' := by
  have hc0 := h.text
  have hc1 := h.pos
  have hs := h.sz
  have hle := h.le
  have hb := h.lt
  have ec39 : ((c.toNat : Int) == 39) = false := beq_eq_false_iff_ne.2 hc39
  have ec126 : ((c.toNat : Int) == 126) = false := beq_eq_false_iff_ne.2 hc126
  have ec61 : ((c.toNat : Int) == 61) = false := beq_eq_false_iff_ne.2 hc61
  have ec45 : ((c.toNat : Int) == 45) = false := beq_eq_false_iff_ne.2 hc45
  go_enter Tryz.func64, Tryz.ntmps64
  go_wp2_with fail
  refine ((h.alloc _).peek _ 0 rfl (by omega) hc).mono ?_
  rintro e w1 ⟨rfl, n1, rfl⟩
  go_wp2_with fail
  refine (isSmall_is hsm _).mono ?_
  rintro e w1 ⟨rfl, rfl⟩
  go_wp2_with fail
  refine (isCapital_is hca _).mono ?_
  rintro e w1 ⟨rfl, rfl⟩
  go_wp2_with fail
  refine (isDigit_is hdg _).mono ?_
  rintro e w1 ⟨rfl, rfl⟩
  go_wp2_with fail
  refine (signs_is hi _).mono ?_
  rintro e w1 ⟨rfl, rfl⟩
  go_wp2
  exact ⟨rfl, rfl, ((But.refl b w).alloc _).drewN n1⟩

end Go.Proofs.YtdchnjijdkgfhaaGreatDoor
