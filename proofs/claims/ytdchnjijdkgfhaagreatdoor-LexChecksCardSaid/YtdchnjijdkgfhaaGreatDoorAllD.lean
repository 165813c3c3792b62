/- The deferred function of reading all: it takes up what the scanner panics with. -/
import Derived.Test.YtdchnjijdkgfhaaGreatDoorTokens
import Derived.BigRegion
import Derived.StillTailTactics
import Derived.RecoverIn
namespace Go.Proofs.YtdchnjijdkgfhaaGreatDoor
open Go.RowKit

theorem assert_yes (w : World) (v : Value) : (Instr.typeAssert (.iface 89 v) 20 89 true).run Tryz.prog w = .ok (.tuple #[v, .bool true]) w := by kernel_rfl
theorem assert_nil (w : World) : (Instr.typeAssert .nilIface 20 89 true).run Tryz.prog w = .ok (.tuple #[.agg #[.int .i64 0, .int .i64 0], .bool false]) w := by kernel_rfl

set_option maxRecDepth 100000 in
theorem all_idle (n A B C : Nat) (w : World) :
    CallsDIn Fence.wide n Tryz.prog 52 #[.pointer (some ⟨A, 0, none⟩), .pointer (some ⟨B, 0, none⟩), .pointer (some ⟨C, 0, none⟩)] .returning w fun e u' w' => e = .returned (.tuple #[]) ∧ u' = .returning ∧ ∃ o, w' = w.alloc o := by
  refine callsDIn_of_wpSIn (F := Fence.wide) Tryz.func52 rfl trivial fun c₀ cs hu => ?_
  simp only [Tryz.ntmps52, List.size_toArray, List.length_cons, List.length_nil, Nat.reduceAdd, Nat.reduceSub, Array.replicate_succ, Array.replicate_zero, List.push_toArray, List.append_toArray, List.nil_append, List.cons_append]
  apply wpSIn_seq
  apply wpSIn_region
  simp [wpOpsSIn, go_sem, recoverD, hu, Exit.thenS, assert_nil, List.range, List.range.loop]
  refine wpSIn_of_wpIn rfl ?_
  gi_wp2
  exact ⟨rfl, _, (by cases c₀; cases hu; rfl), _, results_none rfl _ _ _, rfl, rfl, _, rfl⟩

set_option maxRecDepth 100000 in
theorem all_catch (n A B C : Nat) (va vb vc : Value) (TA TB TC : TypeId) (a x : Int) (older : List PanicEntry) (w : World) (hA : Blk w A #[va] TA) (hB : Blk w B #[vb] TB) (hC : Blk w C #[vc] TC) (hAB : A ≠ B) (hAC : A ≠ C) (hBC : B ≠ C) :
    CallsDIn Fence.wide n Tryz.prog 52 #[.pointer (some ⟨A, 0, none⟩), .pointer (some ⟨B, 0, none⟩), .pointer (some ⟨C, 0, none⟩)] (.panicking ({ v := wrongV a x, recovered := false } :: older)) w fun e u' w' =>
      e = .returned (.tuple #[]) ∧ u' = .panicking ({ v := wrongV a x, recovered := true } :: older) ∧
      ∃ o, w' = ((((w.setCell ⟨A, 0, none⟩ (.slice none 0 0)).setCell ⟨B, 0, none⟩ (.int .i64 a)).setCell ⟨C, 0, none⟩ (.int .i64 x)).alloc o).drew := by
  have a0 := hA.cell (i := 0) (v := va) rfl
  have b0 := hB.cell (i := 0) (v := vb) rfl
  have c0 := hC.cell (i := 0) (v := vc) rfl
  have a1 := hA.free 0
  have b1 := hB.free 0
  have c1 := hC.free 0
  have al := hA.lt
  have bl := hB.lt
  have cl := hC.lt
  refine callsDIn_of_wpSIn (F := Fence.wide) Tryz.func52 rfl trivial fun c₀ cs hu => ?_
  simp only [Tryz.ntmps52, List.size_toArray, List.length_cons, List.length_nil, Nat.reduceAdd, Nat.reduceSub, Array.replicate_succ, Array.replicate_zero, List.push_toArray, List.append_toArray, List.nil_append, List.cons_append]
  apply wpSIn_seq
  apply wpSIn_region
  simp [wpOpsSIn, go_sem, recoverD, hu, Exit.thenS, assert_yes, List.range, List.range.loop]
  refine wpSIn_of_wpIn rfl ?_
  gi_wp2_with fail
  gi_region
  exact ⟨rfl, _, rfl, _, results_none rfl _ _ _, rfl, rfl, _, rfl⟩
end Go.Proofs.YtdchnjijdkgfhaaGreatDoor
