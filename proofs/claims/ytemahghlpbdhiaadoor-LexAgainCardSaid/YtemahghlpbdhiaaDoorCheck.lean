/- Check, Same, and the tokens that are short enough. -/
import Derived.Test.YtemahghlpbdhiaaDoorSaneAll
import Derived.Test.YtemahghlpbdhiaaDoorJoinPure
import Derived.Deep.RegionWith
namespace Go.Proofs.YtemahghlpbdhiaaDoor
open Go.RowKit

def RT.tk (x : RT) : Lx.Tk0 := ⟨x.k, x.n, x.bytes⟩
theorem RT.ok_of {x : RT} (h : x.valid = true) : x.tk.ok ∧ 0 ≤ x.a := by
  unfold RT.valid Lx.valid at h
  cases hW : Lx.whole x.s.data.toList with
  | none => rw [hW] at h; cases h
  | some y =>
    obtain ⟨k', n'⟩ := y
    rw [hW] at h
    simp only [Bool.and_eq_true, decide_eq_true_eq, beq_iff_eq] at h
    obtain ⟨h0, rfl, rfl⟩ := h
    exact ⟨Lx.whole_iff.1 hW, h0⟩
theorem RT.valid_of {x : RT} (h : x.tk.ok) (h0 : 0 ≤ x.a) : x.valid = true := by
  have hW := Lx.whole_iff.2 h
  unfold RT.valid Lx.valid
  rw [show Lx.whole x.s.data.toList = some (x.k, x.n) from hW]
  simp [h0]

set_option maxRecDepth 100000 in
set_option maxHeartbeats 300000 in
theorem check_any (x : RT) (hs : x.s.size ≤ 140737488355328) (w : World) (hg : Gl w) {r : Bool} (hr : Hid (x.valid = r)) :
    Calls Tryd.prog 36 #[x.v] w fun e w' => e = .returned (.int .i64 (if r then 0 else 10)) ∧ Old w w' := by
  have h6 := hg.lt
  have kT0 := (Blk.new' (b := w.heap.size) rfl #[.int .i64 x.k, .int .i64 x.n, .string x.s, .int .i64 x.a] 42).drew
  obtain ⟨c0, c1, c2, c3, -⟩ := kT0.four
  have hlt0 := kT0.lt
  have hsz0 : (w.alloc (.cells #[.int .i64 x.k, .int .i64 x.n, .string x.s, .int .i64 x.a] 42 (0, 0))).drew.heap.size = w.heap.size + 1 := by simp [World.drew]
  have HSZ := Lib.hid hsz0
  clear hsz0
  go_enter Tryd.func36, Tryd.ntmps36
  go_wp2
  go_region_with (first
    | (go_at_call 37; refine (new_st ⟨#[]⟩ _ (by decide)).mono ?_; rintro e w1 ⟨rfl, hS, hC, hO⟩; rw [HSZ.out] at hS; clear hC; have kT1 := kT0.keep hO (fun e => e); obtain ⟨d0, d1, d2, d3, -⟩ := kT1.four)
    | (go_at_call 38; (with_reducible refine (valid_cases w1 (w.heap.size + 1) ⟨#[]⟩ 0 (.slice none 0 0) hS (((hg.alloc _).old ((Old.refl _).drew)).old hO) (by omega) x hs hr).mono ?_); rintro e w2 ⟨rfl, f2, -⟩))
  all_goals
    have hO2 : Old w w2 := Old.but' ((((Old.refl w).alloc _).drew).trans hO) (Nat.le_succ _) f2
    cases r
    · go_wp2
      go_ret
      exact ⟨rfl, hO2⟩
    · go_wp2
      go_ret
      exact ⟨rfl, hO2⟩
end Go.Proofs.YtemahghlpbdhiaaDoor
