/- What the listed variables read as gives the walks. -/
import Derived.Test.YtdchnjijdkgfhaaGreatDoorRows
import Derived.Test.YtdchnjijdkgfhaaGreatDoorNum
import Derived.LaidMore
import Derived.Lib.LaidTab
import Derived.Stop.LaidErr
import Derived.ProofKit
import Derived.OpenShut
import Derived.Stop.Joined
namespace Go.Proofs.YtdchnjijdkgfhaaGreatDoor
open Go.ChangeShapes Go.WideShapes Go.ChangeAt Go.WideMaps Go.WideElems Go.RowKit

theorem own : ownKnob Tryz.prog.godebug = none := by kernel_rfl
theorem star : "*" ++ "errors.errorString" = "*errors.errorString" := by decide
theorem rowErr (u : TypeId) (h : Tryz.prog.typeName? 3 u = some "*errors.errorString") : u = 130 :=
  typeName_ptr_named (nm := "errors.errorString") (by rw [star]; kernel_rfl) (by kernel_rfl) (by decide) u (by rw [star]; exact h)

/-- The listed variables of each row of this seat. -/
abbrev laid5 : List (String × DataW Unit) := Rows.lexScansRow.laid

/-- The door's own heap meets the condition. -/
theorem door_met (os : Os) (args : Array Value) : laidMetH Tryz.prog laid5 ((World.doorLaid Tryz.prog 400 os).forCall (fun _ _ => 0) ⟨#[], args, []⟩).memory :=
  laidMetH_of_parts3 (fuel := 8) (laidMet_of_run' 8 (by kernel_rfl) (by kernel_rfl)) (by kernel_rfl) (by kernel_rfl)

theorem of_laid {W : World} (h : laidMetH Tryz.prog laid5 W) : Gl W := by
  rw [MakeChecks.laidMetH_plain _ _ _ (by kernel_rfl)] at h
  have h1 := h.tail
  have h2 := h1.tail
  have h3 := h2.tail
  have h4 := h3.tail
  obtain ⟨a, s, hr, _⟩ := laid_sentinel h3 (g := 2) (ti := 75) (tp := 130) (te := 132) (ts := 9) (by kernel_rfl) (by kernel_rfl) Tryz.underlying75 rowErr Tryz.underlying130 Tryz.underlying132 rfl rfl Tryz.underlying9 (by kernel_rfl) (by kernel_rfl)
  obtain ⟨a', s', hs, _⟩ := laid_sentinel h4 (g := 1) (ti := 75) (tp := 130) (te := 132) (ts := 9) (by kernel_rfl) (by kernel_rfl) Tryz.underlying75 rowErr Tryz.underlying130 Tryz.underlying132 rfl rfl Tryz.underlying9 (by kernel_rfl) (by kernel_rfl)
  have htab : Lib.TabIs Tryz.prog W "internal/strconv.uint64pow10" .u64 Lib.pow10Tab := Lib.tabIs_of_head (g := 3) (t := 134) (by kernel_rfl) (by kernel_rfl) Tryz.underlying134 Tryz.underlying116 (by kernel_rfl) (by kernel_rfl) h2
  refine ⟨?_, htab, ⟨_, _, hs⟩, ⟨_, _, hr⟩⟩
  obtain ⟨ps, ⟨g, t, cs, fuel, p, q, hg, ht, hvar, _⟩, _⟩ := h1
  have hg5 : Tryz.prog.globalNamed "math/bits.deBruijn64tab" = some 5 := by kernel_rfl
  unfold World.var? at hvar
  rw [hg5] at hvar
  simp only [Option.bind_some] at hvar
  rcases Nat.lt_or_ge 5 W.heap.size with h' | h'
  · exact h'
  · rw [Array.getElem?_eq_none h'] at hvar
    cases hvar
end Go.Proofs.YtdchnjijdkgfhaaGreatDoor
