/- Whether a text is one of the words: the maps are made when they are wanted. -/
import Derived.Test.YtdchnjijdkgfhaaGreatDoorWords
import Derived.Deep.RegionWith
namespace Go.Proofs.YtdchnjijdkgfhaaGreatDoor
open Go.RowKit

set_option maxRecDepth 100000 in
set_option maxHeartbeats 400000 in
theorem wordsOf_none (w : World) (n : Int) (h0 : 0 ≤ n) (h : n < 2) :
    Calls Tryz.prog 114 #[.int .i64 n] w fun e w' => e = .returned (.map none) ∧ w' = w := by
  have h2 : (n == 2) = false := beq_eq_false_iff_ne.2 (by omega)
  have h3 : (n == 3) = false := beq_eq_false_iff_ne.2 (by omega)
  have h4 : (n == 4) = false := beq_eq_false_iff_ne.2 (by omega)
  have h5 : (n == 5) = false := beq_eq_false_iff_ne.2 (by omega)
  have h6 : (n == 6) = false := beq_eq_false_iff_ne.2 (by omega)
  go_enter Tryz.func114, Tryz.ntmps114
  go_wp2
  go_ret
  exact ⟨rfl, rfl⟩

/-- A scanner's maps of words: each is nil, or the map of the words of its length. -/
structure Words (w : World) (r : Array Value) : Prop where
  size : r.size = 8
  at_ : ∀ i, i < 7 → r[i]? = some (.map none) ∨ ∃ m, r[i]? = some (.map (some m)) ∧ WordMap w m i

theorem Words.keep {S : Nat → Prop} {w w' : World} {r : Array Value} (h : Words w r) (hf : Fr S w w') (hn : ∀ k, S k → ∃ cs T f, w.heap[k]? = some (.cells cs T f)) : Words w' r :=
  ⟨h.size, fun i hi => (h.at_ i hi).imp id (fun ⟨m, h1, h2⟩ => ⟨m, h1, h2.keep hf (fun e => by
    obtain ⟨cs, T, f, hc⟩ := hn m e
    exact h2.ne hc rfl)⟩)⟩

theorem Sc.cell {w : World} {b : Nat} {t : ByteArray} {p : Nat} {r : Array Value} (h : Sc w b t p r) {i : Nat} {v : Value} (hv : r[i]? = some v) : w.cell? ⟨b, 2 + i, none⟩ = some v :=
  h.blk.cell (by rw [Array.getElem?_append_right (by simp)]; simpa using hv)

set_option maxRecDepth 100000 in
set_option maxHeartbeats 400000 in
theorem isWord_have (w : World) (b : Nat) (t : ByteArray) (p : Nat) (r : Array Value) (h : Sc w b t p r) (s : ByteArray) (hs : s.size ≤ 6) (m : Nat) (hm : r[s.size]? = some (.map (some m))) (hw : WordMap w m s.size) :
    Calls Tryz.prog 102 #[.pointer (some ⟨b, 0, none⟩), .string s] w fun e w' => e = .returned (.bool (Lx.isWord s.data.toList)) ∧ w' = w := by
  have qT : ∀ (w : World) (r : Option Nat), (binOp .eql 56 (.map r) (.map none)).run Tryz.prog w = .ok (.bool r.isNone) w := fun w r => run_eql_map_nil w _ _ _ r Tryz.underlying56
  have hc := h.cell hm
  have hl := hw.look s rfl hs
  have hs' : (s.size : Int) ≤ 6 := by omega
  go_enter Tryz.func102, Tryz.ntmps102
  go_wp2
  go_ret
  exact ⟨rfl, rfl⟩

theorem wordsOf_some (w : World) (n : Nat) (h : 2 ≤ n) (h' : n ≤ 6) :
    Calls Tryz.prog 114 #[.int .i64 n] w fun e w' => e = .returned (.map (some w.heap.size)) ∧ WordMap w' w.heap.size n ∧ Old w w' := by
  have : n = 2 ∨ n = 3 ∨ n = 4 ∨ n = 5 ∨ n = 6 := by omega
  rcases this with rfl | rfl | rfl | rfl | rfl
  · exact wordsOf_two w
  · exact wordsOf_three w
  · exact wordsOf_four w
  · exact wordsOf_five w
  · exact wordsOf_six w

theorem isWord_longer {l : List UInt8} (h : 6 < l.length) : Lx.isWord l = false := by
  have : ∀ x ∈ Lx.words, x.length ≤ 6 := by decide
  cases hc : Lx.isWord l
  · rfl
  · have := this l (by simpa [Lx.isWord] using hc)
    omega

theorem isWord_shorter {l : List UInt8} (h : l.length < 2) : Lx.isWord l = false := by
  have : ∀ x ∈ Lx.words, 2 ≤ x.length := by decide
  cases hc : Lx.isWord l
  · rfl
  · have := this l (by simpa [Lx.isWord] using hc)
    omega

set_option maxRecDepth 100000 in
set_option maxHeartbeats 400000 in
theorem isWord_long (w : World) (b : Nat) (s : ByteArray) (hs : 6 < s.size) (hs2 : s.size ≤ 140737488355328) :
    Calls Tryz.prog 102 #[.pointer (some ⟨b, 0, none⟩), .string s] w fun e w' => e = .returned (.bool (Lx.isWord s.data.toList)) ∧ w' = w := by
  have hl := Lib.hid (isWord_longer (l := s.data.toList) (by simpa using hs))
  have hs' : 6 < (s.size : Int) := by omega
  go_enter Tryz.func102, Tryz.ntmps102
  go_wp2
  go_ret
  exact ⟨ret_bool hl.out.symm, rfl⟩

theorem Sc.put {w : World} {b : Nat} {t : ByteArray} {p : Nat} {r : Array Value} (h : Sc w b t p r) (i : Nat) (v : Value) : Sc (w.setCell ⟨b, 2 + i, none⟩ v) b t p (r.setIfInBounds i v) :=
  ⟨by have := h.blk.set (2 + i) v; rwa [show (#[Value.string t, .int .i64 (p : Int)] ++ r).setIfInBounds (2 + i) v = #[Value.string t, .int .i64 (p : Int)] ++ r.setIfInBounds i v from by simp [Array.setIfInBounds_append]] at this, h.sz, h.le⟩

theorem set_same {r : Array Value} {i : Nat} {v : Value} (h : r[i]? = some v) : r.setIfInBounds i v = r := by
  apply Array.ext_getElem?
  intro j
  rw [Array.getElem?_setIfInBounds]
  split
  · rename_i e
    subst e
    obtain ⟨hlt, _⟩ := Array.getElem?_eq_some_iff.1 h
    rw [if_pos hlt, h]
  · rfl

set_option maxRecDepth 100000 in
set_option maxHeartbeats 400000 in
theorem isWord_none (w : World) (b : Nat) (t : ByteArray) (p : Nat) (r : Array Value) (h : Sc w b t p r) (s : ByteArray) (hs : s.size < 2) (hm : r[s.size]? = some (.map none)) :
    Calls Tryz.prog 102 #[.pointer (some ⟨b, 0, none⟩), .string s] w fun e w' => e = .returned (.bool (Lx.isWord s.data.toList)) ∧ Sc w' b t p r ∧ But b w w' := by
  have qT : ∀ (w : World) (r : Option Nat), (binOp .eql 56 (.map r) (.map none)).run Tryz.prog w = .ok (.bool r.isNone) w := fun w r => run_eql_map_nil w _ _ _ r Tryz.underlying56
  have hlk : ∀ w, (Instr.lookup 56 (.map none) (.string s) false).run Tryz.prog w = .ok (.bool false) w := fun w => by kernel_rfl
  have hl := Lib.hid (isWord_shorter (l := s.data.toList) (by simpa using hs))
  have hc := h.cell hm
  have hf := h.free (2 + s.size)
  have hs' : (s.size : Int) ≤ 6 := by omega
  have hs7 : (s.size : Int) < 7 := by omega
  go_enter Tryz.func102, Tryz.ntmps102
  go_wp2
  go_region_with (go_at_call 114; refine (wordsOf_none _ _ (by omega) (by omega)).mono ?_; rintro e w' ⟨rfl, rfl⟩)
  all_goals
    go_wp2
    go_ret
    have h2 := (h.put s.size (.map none)).drew
    rw [set_same hm] at h2
    exact ⟨ret_bool hl.out.symm, h2, ((But.refl b w).setCell ⟨b, 2 + s.size, none⟩ (fun _ => rfl) _).drew⟩

theorem wordsOf_int (w : World) (n : Int) (k : Nat) (hn : n = k) (h : 2 ≤ k) (h' : k ≤ 6) :
    Calls Tryz.prog 114 #[.int .i64 n] w fun e w' => e = .returned (.map (some w.heap.size)) ∧ WordMap w' w.heap.size k ∧ Old w w' := hn ▸ wordsOf_some w k h h'

set_option maxRecDepth 100000 in
set_option maxHeartbeats 400000 in
theorem isWord_make (w : World) (b : Nat) (t : ByteArray) (p : Nat) (r : Array Value) (h : Sc w b t p r) (s : ByteArray) (hs : 2 ≤ s.size) (hs6 : s.size ≤ 6) (hm : r[s.size]? = some (.map none)) :
    Calls Tryz.prog 102 #[.pointer (some ⟨b, 0, none⟩), .string s] w fun e w' => e = .returned (.bool (Lx.isWord s.data.toList)) ∧ ∃ m, Sc w' b t p (r.setIfInBounds s.size (.map (some m))) ∧ WordMap w' m s.size ∧ But b w w' := by
  have qT : ∀ (w : World) (r : Option Nat), (binOp .eql 56 (.map r) (.map none)).run Tryz.prog w = .ok (.bool r.isNone) w := fun w r => run_eql_map_nil w _ _ _ r Tryz.underlying56
  have hc := h.cell hm
  have hf := h.free (2 + s.size)
  have hs' : (s.size : Int) ≤ 6 := by omega
  have hs7 : (s.size : Int) < 7 := by omega
  go_enter Tryz.func102, Tryz.ntmps102
  go_wp2
  go_region_with (go_at_call 114; refine (wordsOf_int _ _ s.size rfl hs hs6).mono ?_; rintro e w2 ⟨rfl, hw2, hf2⟩; have hc2 := (h.drew.keep hf2 (by simp)).cell hm; have hg2 := (h.drew.keep hf2 (by simp)).free (2 + s.size))
  all_goals
    have hne : ¬ w.heap.size = b := fun e => by have := h.blk.lt; omega
    have hw3 : WordMap w2 w.heap.size s.size := hw2
    have hw4 := hw3.keep ((But.refl b w2).setCell ⟨b, 2 + s.size, none⟩ (fun _ => rfl) (.map (some w.heap.size))) hne
    have hl := hw4.look s rfl hs6
    go_wp2
    go_ret
    refine ⟨rfl, w.heap.size, (h.drew.keep hf2 (by simp)).put _ _, hw4, ?_⟩
    have := (But.refl b w).drew.trans (hf2.but b)
    exact this.setCell ⟨b, 2 + s.size, none⟩ (fun _ => rfl) _

/-- A scanner, with its maps of words, and its list of comments. -/
def St (w : World) (b : Nat) (t : ByteArray) (p : Nat) (v : Value) : Prop := ∃ r, Sc w b t p r ∧ Words w r ∧ r[7]? = some v

theorem Sc.cells {w : World} {b : Nat} {t : ByteArray} {p : Nat} {r : Array Value} (h : Sc w b t p r) : ∃ cs T f, w.heap[b]? = some (.cells cs T f) := ⟨_, _, _, h.blk⟩
theorem Words.but {w w' : World} {b : Nat} {t : ByteArray} {p : Nat} {r r' : Array Value} (hw : Words w r) (h : Sc w b t p r') (hf : But b w w') : Words w' r :=
  hw.keep hf (fun k e => by subst e; exact h.cells)
theorem St.step {w w' : World} {b : Nat} {t : ByteArray} {p q : Nat} {r : Array Value} {v : Value} (h : Sc w b t p r) (hw : Words w r) (hv : r[7]? = some v) (h' : Sc w' b t q r) (hf : But b w w') : St w' b t q v :=
  ⟨r, h', hw.but h hf, hv⟩
theorem St.lt {w : World} {b : Nat} {t : ByteArray} {p : Nat} {v : Value} (h : St w b t p v) : b < w.heap.size := let ⟨_, h, _⟩ := h; h.blk.lt
theorem St.keep {S : Nat → Prop} {w w' : World} {b : Nat} {t : ByteArray} {p : Nat} {v : Value} (h : St w b t p v) (hf : Fr S w w') (hb : ¬ S b) (hn : ∀ k, S k → ∃ cs T f, w.heap[k]? = some (.cells cs T f)) : St w' b t p v := by
  obtain ⟨r, h1, h2, h3⟩ := h
  exact ⟨r, h1.keep hf hb, h2.keep hf hn, h3⟩
theorem St.old {w w' : World} {b : Nat} {t : ByteArray} {p : Nat} {v : Value} (h : St w b t p v) (hf : Old w w') : St w' b t p v := h.keep hf (by simp) (fun k e => e.elim)
theorem St.alloc {w : World} {b : Nat} {t : ByteArray} {p : Nat} {v : Value} (h : St w b t p v) (o : Obj) : St (w.alloc o) b t p v := h.old ((Old.refl w).alloc o)

theorem isWord_any (w : World) (b : Nat) (t : ByteArray) (p : Nat) (v : Value) (h : St w b t p v) (s : ByteArray) (hs : s.size ≤ 140737488355328) :
    Calls Tryz.prog 102 #[.pointer (some ⟨b, 0, none⟩), .string s] w fun e w' => e = .returned (.bool (Lx.isWord s.data.toList)) ∧ St w' b t p v ∧ But b w w' := by
  obtain ⟨r, h1, h2, h3⟩ := h
  by_cases h6 : 6 < s.size
  · refine (isWord_long w b s h6 hs).mono ?_
    rintro e w' ⟨he, rfl⟩
    exact ⟨he, ⟨r, h1, h2, h3⟩, But.refl b _⟩
  · rcases h2.at_ s.size (by omega) with hm | ⟨m, hm, hw⟩
    · by_cases hs2 : s.size < 2
      · refine (isWord_none w b t p r h1 s hs2 hm).mono ?_
        rintro e w' ⟨he, h1', hf⟩
        exact ⟨he, ⟨r, h1', h2.but h1 hf, h3⟩, hf⟩
      · refine (isWord_make w b t p r h1 s (by omega) (by omega) hm).mono ?_
        rintro e w' ⟨he, m, h1', hw, hf⟩
        refine ⟨he, ⟨_, h1', ⟨by rw [Array.size_setIfInBounds]; exact h2.size, fun i hi => ?_⟩, ?_⟩, hf⟩
        · by_cases e : s.size = i
          · subst e
            exact .inr ⟨m, by rw [Array.getElem?_setIfInBounds_self_of_lt (by rw [h2.size]; omega)], hw⟩
          · rw [Array.getElem?_setIfInBounds_ne e]
            exact (h2.but h1 hf).at_ i hi
        · rw [Array.getElem?_setIfInBounds_ne (by omega)]
          exact h3
    · refine (isWord_have w b t p r h1 s (by omega) m hm hw).mono ?_
      rintro e w' ⟨he, rfl⟩
      exact ⟨he, ⟨r, h1, h2, h3⟩, But.refl b _⟩
end Go.Proofs.YtdchnjijdkgfhaaGreatDoor
