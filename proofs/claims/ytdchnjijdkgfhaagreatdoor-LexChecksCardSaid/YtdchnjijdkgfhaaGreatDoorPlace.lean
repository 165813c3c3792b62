/- The scanner's place: a block that holds a text and an index. -/
import Derived.Test.YtdchnjijdkgfhaaGreatDoorLeaf
import Derived.IntWalk
namespace Go.Proofs.YtdchnjijdkgfhaaGreatDoor
open Go.RowKit

/-- A scanner lies in block b: its text, its index, and the rest of its cells. -/
structure Sc (w : World) (b : Nat) (t : ByteArray) (p : Nat) (r : Array Value) : Prop where
  blk : Blk w b (#[.string t, .int .i64 p] ++ r) 60
  sz : t.size ≤ 140737488355328
  le : p ≤ t.size

theorem Sc.text {w : World} {b : Nat} {t : ByteArray} {p : Nat} {r : Array Value} (h : Sc w b t p r) : w.cell? ⟨b, 0, none⟩ = some (.string t) := h.blk.cell (by simp [Array.getElem?_append])
theorem Sc.pos {w : World} {b : Nat} {t : ByteArray} {p : Nat} {r : Array Value} (h : Sc w b t p r) : w.cell? ⟨b, 1, none⟩ = some (.int .i64 p) := h.blk.cell (by simp [Array.getElem?_append])
theorem Sc.free {w : World} {b : Nat} {t : ByteArray} {p : Nat} {r : Array Value} (h : Sc w b t p r) (i : Nat) : w.frozen? ⟨b, i, none⟩ = false := h.blk.free i
theorem Sc.move {w : World} {b : Nat} {t : ByteArray} {p : Nat} {r : Array Value} (h : Sc w b t p r) (q : Nat) (hq : q ≤ t.size) : Sc (w.setCell ⟨b, 1, none⟩ (.int .i64 q)) b t q r :=
  ⟨by have := h.blk.set 1 (.int .i64 q); rwa [show (#[Value.string t, .int .i64 (p : Int)] ++ r).setIfInBounds 1 (.int .i64 q) = #[Value.string t, .int .i64 (q : Int)] ++ r from by simp [Array.setIfInBounds_append]] at this, h.sz, hq⟩
theorem Sc.keep {S : Nat → Prop} {w w' : World} {b : Nat} {t : ByteArray} {p : Nat} {r : Array Value} (h : Sc w b t p r) (hf : Fr S w w') (hn : ¬ S b) : Sc w' b t p r := ⟨h.blk.keep hf hn, h.sz, h.le⟩
theorem Sc.other {w : World} {b : Nat} {t : ByteArray} {p : Nat} {r : Array Value} (h : Sc w b t p r) (a : Addr) (hp : b ≠ a.block) (v : Value) : Sc (w.setCell a v) b t p r := ⟨h.blk.other a hp v, h.sz, h.le⟩
theorem Sc.alloc {w : World} {b : Nat} {t : ByteArray} {p : Nat} {r : Array Value} (h : Sc w b t p r) (o : Obj) : Sc (w.alloc o) b t p r := ⟨h.blk.alloc o, h.sz, h.le⟩
theorem Sc.drewN {w : World} {b : Nat} {t : ByteArray} {p : Nat} {r : Array Value} (h : Sc w b t p r) (n : Nat) : Sc (w.drewN n) b t p r := ⟨h.blk, h.sz, h.le⟩
theorem Sc.drew {w : World} {b : Nat} {t : ByteArray} {p : Nat} {r : Array Value} (h : Sc w b t p r) : Sc w.drew b t p r := ⟨h.blk, h.sz, h.le⟩

theorem Sc.set4 {w : World} {b : Nat} {t : ByteArray} {p : Nat} {r : Array Value} (h : Sc w b t p r) {n : Nat} (hn : b ≠ n) (v0 v1 v2 v3 : Value) :
    Sc ((((w.setCell ⟨n, 0, none⟩ v0).setCell ⟨n, 1, none⟩ v1).setCell ⟨n, 2, none⟩ v2).setCell ⟨n, 3, none⟩ v3) b t p r := ⟨h.blk.set4other hn v0 v1 v2 v3, h.sz, h.le⟩

/-- What is left of the text behind the index. -/
abbrev rest (t : ByteArray) (p : Nat) : List UInt8 := t.data.toList.drop p

set_option maxHeartbeats 400000 in
theorem newScanner_any (t : ByteArray) (w : World) :
    Calls Tryz.prog 32 #[.string t] w fun e w' => e = .returned (.pointer (some ⟨w.heap.size, 0, none⟩)) ∧ w' = w.alloc (.cells #[.string t, .int .i64 0, .map none, .map none, .map none, .map none, .map none, .map none, .map none, .slice none 0 0] 60 (0, 0)) := by
  go_enter Tryz.func32, Tryz.ntmps32
  go_wp2
  go_ret
  exact ⟨rfl, rfl⟩

set_option maxHeartbeats 400000 in
theorem done_any (w : World) (b : Nat) (t : ByteArray) (p : Nat) (r : Array Value) (h : Sc w b t p r) :
    Calls Tryz.prog 65 #[.pointer (some ⟨b, 0, none⟩)] w fun e w' => e = .returned (.bool (decide (t.size ≤ p))) ∧ ∃ n, w' = w.drewN n := by
  have hc0 := h.text
  have hc1 := h.pos
  have hs := h.sz
  have hl := h.le
  go_enter Tryz.func65, Tryz.ntmps65
  go_wp2
  go_quiet (fail)
  go_wp2
  go_ret
  exact ⟨rfl, _, rfl⟩

theorem done_is {w : World} {b : Nat} {t : ByteArray} {p : Nat} {r : Array Value} (h : Sc w b t p r) {v : Bool} (hv : Hid (decide (t.size ≤ p) = v)) :
    Calls Tryz.prog 65 #[.pointer (some ⟨b, 0, none⟩)] w fun e w' => e = .returned (.bool v) ∧ ∃ n, w' = w.drewN n := by
  have h := done_any w b t p r h
  rw [hv.out] at h
  exact h

theorem peek_in {t : ByteArray} {p n : Nat} (h : p + n < t.size) : Lx.peek (rest t p) n = t[p + n] := by
  unfold Lx.peek
  rw [List.getD_eq_getElem?_getD, List.getElem?_drop, List.getElem?_eq_getElem (by simpa using h)]
  rfl
theorem peek_out {t : ByteArray} {p n : Nat} (h : t.size ≤ p + n) : Lx.peek (rest t p) n = 0 := by
  unfold Lx.peek
  rw [List.getD_eq_getElem?_getD, List.getElem?_drop, List.getElem?_eq_none (by simpa using h)]
  rfl

set_option maxHeartbeats 400000 in
theorem peek_any (w : World) (b : Nat) (t : ByteArray) (p : Nat) (r : Array Value) (h : Sc w b t p r) (n : Int) (k : Nat) (hn : n = k) (hk : k ≤ 1) :
    Calls Tryz.prog 78 #[.pointer (some ⟨b, 0, none⟩), .int .i64 n] w fun e w' => e = .returned (.int .u8 (Lx.peek (rest t p) k).toNat) ∧ ∃ n, w' = w.drewN n := by
  subst hn
  have hc0 := h.text
  have hc1 := h.pos
  have hs := h.sz
  have hl := h.le
  have e1 : IntKind.i64.wrap ((p : Int) + (k : Int)) = (p : Int) + (k : Int) := IntWalk.i64_in _ (by omega)
  have e2 : 0 ≤ (p : Int) + (k : Int) := by omega
  have e3 : ((p : Int) + (k : Int)).toNat = p + k := by omega
  by_cases hlt : p + k < t.size
  · have HP := Lib.hid (peek_in hlt)
    have hlt' : (p : Int) + (k : Int) < t.size := by omega
    have hlt2 : decide ((t.size : Int) ≤ (p : Int) + (k : Int)) = false := by simp; omega
    go_enter Tryz.func78, Tryz.ntmps78
    go_wp2
    go_quiet (fail)
    go_wp2
    go_quiet (fail)
    go_wp2
    go_ret
    exact ⟨by rw [HP.out]; rfl, _, World.drewN_drewN _ _ _⟩
  · have HP := Lib.hid (peek_out (Nat.not_lt.1 hlt))
    have hlt' : (t.size : Int) ≤ (p : Int) + (k : Int) := by omega
    have hlt2 : decide ((t.size : Int) ≤ (p : Int) + (k : Int)) = true := by simp; omega
    go_enter Tryz.func78, Tryz.ntmps78
    go_wp2
    go_quiet (fail)
    go_wp2
    go_ret
    exact ⟨by rw [HP.out]; rfl, _, rfl⟩
end Go.Proofs.YtdchnjijdkgfhaaGreatDoor
