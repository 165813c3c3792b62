/- The examples are as they should be. -/
import Derived.Test.YtdchnjijdkgfhaaGreatDoorSane
namespace Go.Proofs.YtdchnjijdkgfhaaGreatDoor
open Go.RowKit

set_option maxRecDepth 100000 in
set_option maxHeartbeats 4000000 in
theorem sane_any (w : World) (hg : Gl w) : Calls Tryz.prog 6 #[] w fun e w' => e = .returned (.bool true) ∧ Old w w' := by
  go_enter Tryz.func6, Tryz.ntmps6
  go_wp2_with fail
  refine (sane1 w hg).mono ?_
  rintro e w1 ⟨g, o, lc, rfl, hT, hO1⟩
  have hg1 := hg.old hO1
  go_wp2_with fail
  refine (sane2 w1 hg1).mono ?_
  rintro e w2 ⟨la2, lc2, rfl, hO2⟩
  have hg2 := hg1.old hO2
  go_wp2_with fail
  refine (sane3 w2 hg2).mono ?_
  rintro e w3 ⟨la3, lc3, rfl, hO3⟩
  have hg3 := hg2.old hO3
  go_wp2_with fail
  refine (sane4 w3 hg3).mono ?_
  rintro e w4 ⟨rfl, hO4⟩
  have hg4 := hg3.old hO4
  go_wp2_with fail
  refine (sane5 w4 hg4).mono ?_
  rintro e w5 ⟨rfl, hO5⟩
  have hg5 := hg4.old hO5
  go_wp2_with fail
  refine (sane6 w5).mono ?_
  rintro e w6 ⟨rfl, hO6⟩
  have hg6 := hg5.old hO6
  go_wp2_with fail
  refine (sane7 w6).mono ?_
  rintro e w7 ⟨rfl, hO7⟩
  have hg7 := hg6.old hO7
  have hO : Old w w7 := (((((hO1.trans hO2).trans hO3).trans hO4).trans hO5).trans hO6).trans hO7
  have hT7 : TlAt w7 (some ⟨g, o, none⟩) (toks1.map rt) := ((((((hT.old hO2).old hO3).old hO4).old hO5).old hO6).old hO7)
  obtain ⟨g1, o1, he, -, x0, x1, x2, x3⟩ := hT7 6 (by decide)
  cases he
  obtain ⟨g1, o1, he, -, y0, y1, y2, y3⟩ := hT7 7 (by decide)
  cases he
  have x1' : w7.cell? ⟨g, o + 24 + 1, none⟩ = some (.int .i64 (-1)) := x1
  have x2' : w7.cell? ⟨g, o + 24 + 2, none⟩ = some (.string ⟨#[126, 49]⟩) := x2
  have y3' : w7.cell? ⟨g, o + 28 + 3, none⟩ = some (.int .i64 27) := y3
  clear x0 x1 x2 x3 y0 y1 y2 y3 hT hO1 hO2 hO3 hO4 hO5 hO6 hO7 hg1 hg2 hg3 hg4 hg5 hg6
  go_wp2_with fail
  refine (sane8 w7 hg7 hT7).mono ?_
  rintro e v1 ⟨rfl, hP1⟩
  have hq1 := hg7.old hP1
  have hO1 := hO.trans hP1
  clear x1' x2' y3' hT7
  go_wp2_with fail
  refine (saneName ⟨#[102, 39, 49]⟩ (by decide) v1 hq1 (k := 2) (r := true) (by kernel_rfl) rfl).mono ?_
  rintro e v2 ⟨rfl, hP2⟩
  have hq2 := hq1.old hP2
  have hO2 := hO1.trans hP2
  go_wp2_with fail
  refine (saneName ⟨#[105, 110]⟩ (by decide) v2 hq2 (k := 5) (r := false) (by kernel_rfl) rfl).mono ?_
  rintro e v3 ⟨rfl, hP3⟩
  have hq3 := hq2.old hP3
  have hO3 := hO2.trans hP3
  go_wp2_with fail
  refine (saneName ⟨#[102, 39]⟩ (by decide) v3 hq3 (k := 0) (r := false) (by kernel_rfl) rfl).mono ?_
  rintro e v4 ⟨rfl, hP4⟩
  have hq4 := hq3.old hP4
  have hO4 := hO3.trans hP4
  go_wp2_with fail
  refine (sanePlain ⟨#[102, 39, 49]⟩ (by decide) v4 hq4 (r := false) (by kernel_rfl)).mono ?_
  rintro e v5 ⟨rfl, hP5⟩
  have hq5 := hq4.old hP5
  have hO5 := hO4.trans hP5
  go_wp2_with fail
  refine (sanePlain ⟨#[39, 97]⟩ (by decide) v5 hq5 (r := true) (by kernel_rfl)).mono ?_
  rintro e v6 ⟨rfl, hP6⟩
  have hq6 := hq5.old hP6
  have hO6 := hO5.trans hP6
  go_wp2_with fail
  refine (kind_is ⟨#[61, 62]⟩ (by decide) v6 hq6 (k := 6) (Lib.hid (by kernel_rfl))).mono ?_
  rintro e v7 ⟨rfl, hP7⟩
  have hq7 := hq6.old hP7
  have hO7 := hO6.trans hP7
  go_wp2_with fail
  refine (sane9 v7 hq7).mono ?_
  rintro e v8 ⟨rfl, hP8⟩
  have hO8 := hO7.trans hP8
  clear hP1 hP2 hP3 hP4 hP5 hP6 hP7 hP8 hq1 hq2 hq3 hq4 hq5 hq6 hq7 hO1 hO2 hO3 hO4 hO5 hO6 hO7 hO hg7
  go_wp2_with fail
  go_ret
  exact ⟨rfl, hO8⟩
end Go.Proofs.YtdchnjijdkgfhaaGreatDoor
