/- The words of the language, kept in maps by their lengths. -/
import Derived.Test.YtdchnjijdkgfhaaGreatDoorToken
import Derived.Maps.OwnOps
import Derived.Maps.Views
namespace Go.Proofs.YtdchnjijdkgfhaaGreatDoor
open Go.RowKit

/-- Block b is a map of at most n entries whose keys are the texts of a list, all true. -/
def IsSet (w : World) (b n : Nat) (L : List (List UInt8)) : Prop :=
  ∃ D : DataW Unit, w.ownsMap Tryz.prog 9 (plainElem Tryz.prog 4) b n D ∧ Maps.IsMap D ∧ ∀ l : List UInt8, D.atKey (.string l) (.lit (.bool false)) = .lit (.bool (L.contains l))

theorem IsSet.lt {w : World} {b n : Nat} {L : List (List UInt8)} (h : IsSet w b n L) : b < w.heap.size := by
  obtain ⟨D, h1, _⟩ := h
  exact h1.lt
theorem IsSet.made (w : World) : IsSet (w.alloc (.map #[] 0)) w.heap.size 0 [] :=
  ⟨.map [], World.ownsMap_made w _ _ _, ⟨[], rfl⟩, fun l => rfl⟩
theorem IsSet.keep {S : Nat → Prop} {w w' : World} {b n : Nat} {L : List (List UInt8)} (h : IsSet w b n L) (hf : Fr S w w') (hn : ¬ S b) : IsSet w' b n L := by
  obtain ⟨D, ⟨es, clock, hb, F, r⟩, h2⟩ := h
  exact ⟨D, ⟨es, clock, hf.heap hb hn, F, r⟩, h2⟩
/-- A map's block is no block of cells. -/
theorem IsSet.ne {w : World} {b n c : Nat} {L : List (List UInt8)} (h : IsSet w b n L) {cs : Array Value} {T : TypeId} {f : Nat × Nat} (hc : w.heap[c]? = some (.cells cs T f)) : b ≠ c := by
  obtain ⟨D, ⟨es, clock, hb, _⟩, _⟩ := h
  rintro rfl
  rw [hc] at hb
  cases hb

theorem plainElem_bool_inv {P : Program} {e : TypeId} (he : P.underlying e = some .bool) {v : Value} {x : Bool} (h : plainElem (H := Unit) P e v = some (.lit (.bool x), [])) : v = .bool x := by
  unfold plainElem at h
  rw [he] at h
  cases v <;> simp_all

theorem set_look {P : Program} {t k e : TypeId} (hk : P.underlying k = some .string) (he : P.underlying e = some .bool) (ht : P.underlying t = some (.map k e)) {w : World} (hz : (zeroValue e).run P w = .ok (.bool false) w) {b n : Nat} {L : List (List UInt8)} {D : DataW Unit}
    (h1 : w.ownsMap P k (plainElem P e) b n D) (h3 : ∀ l : List UInt8, D.atKey (.string l) (.lit (.bool false)) = .lit (.bool (L.contains l))) (s : ByteArray) (hs : s.size ≤ maxLen) :
    (Instr.lookup t (.map (some b)) (.string s) false).run P w = .ok (.bool (L.contains s.data.toList)) w := by
  obtain ⟨v, ps, hrun, hv⟩ := h1.lookup (Maps.string_keyed hk) ht hz (plainElem_bool he false) (WideMaps.keyOf_string_mk hk hs)
  rw [h3] at hv
  have : ps = [] := plainElem_places hv
  subst this
  rw [plainElem_bool_inv he hv] at hrun
  exact hrun

theorem set_insert {P : Program} {t k e : TypeId} (hk : P.underlying k = some .string) (he : P.underlying e = some .bool) (ht : P.underlying t = some (.map k e)) {w : World} {ops : Array Oper} {rest : List Oper} {o : Oper} {a : Act} {Q : Exit → Act → World → Prop}
    (hg : o.guard = none) (m x v : Operand) (hop : o.op = Op.insert t m x v) (b n : Nat) (L : List (List UInt8)) (key : ByteArray)
    (hm : a.eval m = .map (some b)) (hx : a.eval x = .string key) (hv : a.eval v = .bool true) {D : DataW Unit} (h1 : w.ownsMap P k (plainElem P e) b n D) (h2 : Maps.IsMap D)
    (h3 : ∀ l : List UInt8, D.atKey (.string l) (.lit (.bool false)) = .lit (.bool (L.contains l))) (hn : n < 1000) (hks : key.size ≤ 1000)
    (hK : ∀ w' (D' : DataW Unit), w'.ownsMap P k (plainElem P e) b (n + 1) D' → Maps.IsMap D' → (∀ l : List UInt8, D'.atKey (.string l) (.lit (.bool false)) = .lit (.bool ((key.data.toList :: L).contains l))) → w.grownBy w' (some b) → wpList P ops Q rest (a.put o.dst undef) w') :
    wpList P ops Q (o :: rest) a w := by
  refine wpList_plain hg fun K' hK' => ?_
  have hk' : key.size ≤ maxLen := by unfold maxLen; omega
  obtain ⟨w', hrun, r1, r2⟩ := h1.update (Maps.string_keyed hk) ht (by unfold maxLen; omega) (WideMaps.keyOf_string_mk hk hk') (plainElem_bool he true)
  unfold Oper.wp
  simp [execOp, hop, hm, hx, hv, hrun, Result.andThen]
  refine hK' _ _ (hK w' _ r1 (h2.put _ _) (fun l => ?_) r2)
  by_cases e : l = key.data.toList
  · subst e
    rw [Maps.atKey_put_same h2 (by simp [WideAt.IsKeyLit])]
    simp
  · rw [Maps.atKey_put_other (by simpa using e), h3]
    simp [e]

theorem IsSet.look {w : World} {b n : Nat} {L : List (List UInt8)} (h : IsSet w b n L) (s : ByteArray) (hs : s.size ≤ maxLen) :
    (Instr.lookup 56 (.map (some b)) (.string s) false).run Tryz.prog w = .ok (.bool (L.contains s.data.toList)) w := by
  obtain ⟨D, h1, _, h3⟩ := h
  have hz : (zeroValue 4).run Tryz.prog w = .ok (.bool false) w := by kernel_rfl
  exact set_look Tryz.underlying9 Tryz.underlying4 Tryz.underlying56 hz h1 h3 s hs

theorem wpList_insert_set {w : World} {ops : Array Oper} {rest : List Oper} {o : Oper} {a : Act} {Q : Exit → Act → World → Prop}
    (hg : o.guard = none) (m x v : Operand) (hop : o.op = Op.insert 56 m x v) (b n : Nat) (L : List (List UInt8)) (key : ByteArray)
    (hm : a.eval m = .map (some b)) (hx : a.eval x = .string key) (hv : a.eval v = .bool true) (hown : IsSet w b n L) (hn : n < 1000) (hk : key.size ≤ 1000)
    (hK : ∀ w', IsSet w' b (n + 1) (key.data.toList :: L) → w.grownBy w' (some b) → wpList Tryz.prog ops Q rest (a.put o.dst undef) w') :
    wpList Tryz.prog ops Q (o :: rest) a w := by
  obtain ⟨D, h1, h2, h3⟩ := hown
  exact set_insert Tryz.underlying9 Tryz.underlying4 Tryz.underlying56 hg m x v hop b n L key hm hx hv h1 h2 h3 hn hk (fun w' D' a b c d => hK w' ⟨D', a, b, c⟩ d)

/-- The words that have a length. -/
def wordsLen (n : Nat) : List (List UInt8) := Lx.words.filter (fun l => l.length == n)

/-- Block b is the map of the words of a length. -/
def WordMap (w : World) (b n : Nat) : Prop := ∃ k L, IsSet w b k L ∧ ∀ l, L.contains l = (wordsLen n).contains l

theorem WordMap.lt {w : World} {b n : Nat} (h : WordMap w b n) : b < w.heap.size := by
  obtain ⟨k, L, h1, _⟩ := h
  exact h1.lt
theorem WordMap.keep {S : Nat → Prop} {w w' : World} {b n : Nat} (h : WordMap w b n) (hf : Fr S w w') (hn : ¬ S b) : WordMap w' b n := by
  obtain ⟨k, L, h1, h2⟩ := h
  exact ⟨k, L, h1.keep hf hn, h2⟩
theorem WordMap.ne {w : World} {b n c : Nat} (h : WordMap w b n) {cs : Array Value} {T : TypeId} {f : Nat × Nat} (hc : w.heap[c]? = some (.cells cs T f)) : b ≠ c := by
  obtain ⟨k, L, h1, _⟩ := h
  exact h1.ne hc

theorem wordsLen_contains {n : Nat} {l : List UInt8} (hl : l.length = n) : (wordsLen n).contains l = Lx.isWord l := by
  rw [Bool.eq_iff_iff]
  unfold wordsLen Lx.isWord
  simp [hl]

theorem WordMap.look {w : World} {b n : Nat} (h : WordMap w b n) (s : ByteArray) (hs : s.size = n) (hn : n ≤ 6) :
    (Instr.lookup 56 (.map (some b)) (.string s) false).run Tryz.prog w = .ok (.bool (Lx.isWord s.data.toList)) w := by
  obtain ⟨k, L, h1, h2⟩ := h
  rw [h1.look s (by unfold maxLen; omega), h2, wordsLen_contains (by simpa using hs)]

set_option maxRecDepth 100000 in
set_option maxHeartbeats 400000 in
theorem wordsOf_two (w : World) :
    Calls Tryz.prog 114 #[.int .i64 2] w fun e w' => e = .returned (.map (some w.heap.size)) ∧ WordMap w' w.heap.size 2 ∧ Old w w' := by
  have hmm := @run_makeMap Tryz.prog
  have hset := IsSet.made w
  have hfr := (Old.refl w).alloc (.map #[] 0)
  go_enter Tryz.func114, Tryz.ntmps114
  go_wp2_with (refine wpList_insert_set rfl _ _ _ rfl _ _ _ _ rfl rfl rfl hset (by decide) (by decide) ?_; clear hset; intro w1 hset g1; have hfr := hfr.grown g1 (fun k e1 e2 => by cases e1; exact absurd e2 (Nat.lt_irrefl _)); clear g1)
  go_ret
  refine ⟨rfl, ⟨_, _, hset, fun l => ?_⟩, hfr⟩
  simp only [List.contains_eq_mem, decide_eq_decide]
  exact List.Perm.mem_iff (by decide)

set_option maxRecDepth 100000 in
set_option maxHeartbeats 400000 in
theorem wordsOf_three (w : World) :
    Calls Tryz.prog 114 #[.int .i64 3] w fun e w' => e = .returned (.map (some w.heap.size)) ∧ WordMap w' w.heap.size 3 ∧ Old w w' := by
  have hmm := @run_makeMap Tryz.prog
  have hset := IsSet.made w
  have hfr := (Old.refl w).alloc (.map #[] 0)
  go_enter Tryz.func114, Tryz.ntmps114
  go_wp2_with (refine wpList_insert_set rfl _ _ _ rfl _ _ _ _ rfl rfl rfl hset (by decide) (by decide) ?_; clear hset; intro w1 hset g1; have hfr := hfr.grown g1 (fun k e1 e2 => by cases e1; exact absurd e2 (Nat.lt_irrefl _)); clear g1)
  go_ret
  refine ⟨rfl, ⟨_, _, hset, fun l => ?_⟩, hfr⟩
  simp only [List.contains_eq_mem, decide_eq_decide]
  exact List.Perm.mem_iff (by decide)

set_option maxRecDepth 100000 in
set_option maxHeartbeats 400000 in
theorem wordsOf_four (w : World) :
    Calls Tryz.prog 114 #[.int .i64 4] w fun e w' => e = .returned (.map (some w.heap.size)) ∧ WordMap w' w.heap.size 4 ∧ Old w w' := by
  have hmm := @run_makeMap Tryz.prog
  have hset := IsSet.made w
  have hfr := (Old.refl w).alloc (.map #[] 0)
  go_enter Tryz.func114, Tryz.ntmps114
  go_wp2_with (refine wpList_insert_set rfl _ _ _ rfl _ _ _ _ rfl rfl rfl hset (by decide) (by decide) ?_; clear hset; intro w1 hset g1; have hfr := hfr.grown g1 (fun k e1 e2 => by cases e1; exact absurd e2 (Nat.lt_irrefl _)); clear g1)
  go_ret
  refine ⟨rfl, ⟨_, _, hset, fun l => ?_⟩, hfr⟩
  simp only [List.contains_eq_mem, decide_eq_decide]
  exact List.Perm.mem_iff (by decide)

set_option maxRecDepth 100000 in
set_option maxHeartbeats 400000 in
theorem wordsOf_five (w : World) :
    Calls Tryz.prog 114 #[.int .i64 5] w fun e w' => e = .returned (.map (some w.heap.size)) ∧ WordMap w' w.heap.size 5 ∧ Old w w' := by
  have hmm := @run_makeMap Tryz.prog
  have hset := IsSet.made w
  have hfr := (Old.refl w).alloc (.map #[] 0)
  go_enter Tryz.func114, Tryz.ntmps114
  go_wp2_with (refine wpList_insert_set rfl _ _ _ rfl _ _ _ _ rfl rfl rfl hset (by decide) (by decide) ?_; clear hset; intro w1 hset g1; have hfr := hfr.grown g1 (fun k e1 e2 => by cases e1; exact absurd e2 (Nat.lt_irrefl _)); clear g1)
  go_ret
  refine ⟨rfl, ⟨_, _, hset, fun l => ?_⟩, hfr⟩
  simp only [List.contains_eq_mem, decide_eq_decide]
  exact List.Perm.mem_iff (by decide)

set_option maxRecDepth 100000 in
set_option maxHeartbeats 400000 in
theorem wordsOf_six (w : World) :
    Calls Tryz.prog 114 #[.int .i64 6] w fun e w' => e = .returned (.map (some w.heap.size)) ∧ WordMap w' w.heap.size 6 ∧ Old w w' := by
  have hmm := @run_makeMap Tryz.prog
  have hset := IsSet.made w
  have hfr := (Old.refl w).alloc (.map #[] 0)
  go_enter Tryz.func114, Tryz.ntmps114
  go_wp2_with (refine wpList_insert_set rfl _ _ _ rfl _ _ _ _ rfl rfl rfl hset (by decide) (by decide) ?_; clear hset; intro w1 hset g1; have hfr := hfr.grown g1 (fun k e1 e2 => by cases e1; exact absurd e2 (Nat.lt_irrefl _)); clear g1)
  go_ret
  refine ⟨rfl, ⟨_, _, hset, fun l => ?_⟩, hfr⟩
  simp only [List.contains_eq_mem, decide_eq_decide]
  exact List.Perm.mem_iff (by decide)

end Go.Proofs.YtdchnjijdkgfhaaGreatDoor
