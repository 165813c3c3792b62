/- LexPrefix, walked. -/
import Derived.Test.YtemahghlpbdhiaaDoorSaneAll
import Derived.Test.YtemahghlpbdhiaaDoorScanPure
namespace Go.Proofs.YtemahghlpbdhiaaDoor
open Go.RowKit

theorem size_list (t : ByteArray) : t.data.toList.length = t.size := by rw [Array.length_toList]; rfl
theorem upto_small (t : ByteArray) (h : t.size ≤ 20000) : Lx.upto t.data.toList 20000 = Lx.scan t.data.toList 0 := by
  unfold Lx.upto
  rw [size_list, if_neg (by omega)]
theorem extract_zero (t : ByteArray) (k : Nat) : (t.extract 0 k).data.toList = t.data.toList.take k := by
  have := extract_take t 0 k
  rwa [Nat.zero_add] at this
theorem code_ne {l : List UInt8} {p a : Nat} {x : Int} (h : Lx.scan l p = .err a x) : x ≠ 0 := scan_code _ _ _ _ _ h

set_option maxRecDepth 100000 in
set_option maxHeartbeats 4000000 in
theorem lexPrefix_any (t : ByteArray) (w : World) (hg : Gl w) :
    Calls Tryd.prog 10 #[.string t] w fun e w' => e = .returned (.bool true) ∧ Old w w' := by
  by_cases hbig : 5000 < t.size
  · have hd : decide ((5000 : Int) < (t.size : Int)) = true := by simp only [decide_eq_true_eq]; omega
    go_enter Tryd.func10, Tryd.ntmps10
    go_wp2_with fail
    refine (sane_any w hg).mono ?_
    rintro e w1 ⟨rfl, hO⟩
    clear hbig
    go_wp2
    go_ret
    exact ⟨rfl, hO⟩
  · have hd : decide ((5000 : Int) < (t.size : Int)) = false := by simp only [decide_eq_false_iff_not]; omega
    have hsz := Lib.hid (show t.size ≤ 5000 by omega)
    cases hr : Lx.upto t.data.toList 20000 with
    | ok ts C =>
      have HR := Lib.hid hr
      clear hr hbig
      go_enter Tryd.func10, Tryd.ntmps10
      go_wp2_with fail
      refine (sane_any w hg).mono ?_
      rintro e w1 ⟨rfl, hO⟩
      go_wp2_with fail
      refine (scan_gives t (by have := hsz.out; omega) w1 (hg.old hO) HR.out).mono ?_
      rintro e w2 ⟨la, lc, rfl, -, hO2⟩
      have hO' := hO.trans hO2
      clear hO hO2
      go_wp2
      go_ret
      exact ⟨rfl, hO'⟩
    | err a x =>
      have hs : Lx.scan t.data.toList 0 = .err a x := by rw [← upto_small t (by omega)]; exact hr
      obtain ⟨k, hk, hlt, h6, hn6⟩ := Lx.scan_wrong _ _ _ _ _ (Nat.le_refl _) hs
      rw [Nat.zero_add] at hk
      subst hk
      rw [size_list] at hlt
      have hx0 : (x == 0) = false := beq_eq_false_iff_ne.2 (code_ne hs)
      have ha0 : decide ((a : Int) < 0) = false := by simp only [decide_eq_false_iff_not]; omega
      have ha1 : decide (t.size ≤ a) = false := by simp only [decide_eq_false_iff_not]; omega
      have HR := Lib.hid hr
      have HL := Lib.hid hlt
      have ha2 : (a : Int) ≤ (t.size : Int) := by omega
      have hex : (t.extract 0 a).size ≤ 5000 := by rw [ByteArray.size_extract]; omega
      clear hr hbig hlt
      by_cases hx6 : x = 6
      · obtain ⟨f, hf, hfl⟩ := h6 hx6
        have hu : Lx.upto (t.extract 0 a).data.toList 20000 = .err f 12 := by
          rw [upto_small _ (by omega), extract_zero]; exact hf
        have HU := Lib.hid hu
        have HE := Lib.hid hex
        have hfd : decide (f < a) = true := by simp only [decide_eq_true_eq]; omega
        have hx6' : (x == 6) = true := by simpa using hx6
        clear h6 hn6 hu hs hf hfl hx6 hex
        go_enter Tryd.func10, Tryd.ntmps10
        go_wp2_with fail
        refine (sane_any w hg).mono ?_
        rintro e w1 ⟨rfl, hO⟩
        go_wp2_with fail
        refine (scan_fails t (by have := hsz.out; omega) w1 (hg.old hO) HR.out).mono ?_
        rintro e w2 ⟨la, lc, rfl, hO2⟩
        have hO' := hO.trans hO2
        clear hO hO2
        go_wp2_with fail
        refine (scan_fails (t.extract 0 a) (by have := HE.out; omega) w2 (hg.old hO') HU.out).mono ?_
        rintro e w3 ⟨la3, lc3, rfl, hO3⟩
        have hO3' := hO'.trans hO3
        clear hO' hO3
        go_wp2
        go_ret
        exact ⟨rfl, hO3'⟩
      · obtain ⟨ts, cs, hts, hall⟩ := hn6 hx6
        have hu : Lx.upto (t.extract 0 a).data.toList 20000 = .ok ts cs := by
          rw [upto_small _ (by omega), extract_zero]; exact hts
        have HU := Lib.hid hu
        have HE := Lib.hid hex
        have hx6' : (x == 6) = false := beq_eq_false_iff_ne.2 hx6
        clear h6 hn6 hu hs hx6 hex
        cases hlen : ts.length with
        | zero =>
          clear hall hts
          go_enter Tryd.func10, Tryd.ntmps10
          go_wp2_with fail
          refine (sane_any w hg).mono ?_
          rintro e w1 ⟨rfl, hO⟩
          go_wp2_with fail
          refine (scan_fails t (by have := hsz.out; omega) w1 (hg.old hO) HR.out).mono ?_
          rintro e w2 ⟨la, lc, rfl, hO2⟩
          have hO' := hO.trans hO2
          clear hO hO2
          go_wp2_with fail
          refine (scan_gives (t.extract 0 a) (by have := HE.out; omega) w2 (hg.old hO') HU.out).mono ?_
          rintro e w3 ⟨la3, lc3, rfl, -, hO3⟩
          rw [hlen]
          have hO3' := hO'.trans hO3
          clear hO' hO3
          go_wp2
          go_quiet (fail)
          go_wp2
          go_ret
          exact ⟨rfl, hO3'.drewN _⟩
        | succ n =>
          have hi : n < ts.length := by omega
          obtain ⟨y, hy⟩ : ∃ y, ts[n] = y := ⟨_, rfl⟩
          have hyl := hall y (hy ▸ List.getElem_mem hi)
          have hyt := Lx.scan_toks _ _ _ _ _ (Nat.le_refl _) hts y (hy ▸ List.getElem_mem hi)
          have hlz : (((n + 1 : Nat) : Int) == 0) = false := beq_eq_false_iff_ne.2 (by omega)
          have hlz2 : ((n : Int) + 1 == 0) = false := beq_eq_false_iff_ne.2 (by omega)
          have hlt0 : (n : Int) < (n : Int) + 1 := by omega
          have hn0 : (0 : Int) ≤ (n : Int) := by omega
          have hcnt := Lx.scan_count hts
          rw [List.length_take] at hcnt
          have hn4 : n ≤ 10000 := by have := hsz.out; omega
          have hwn : IntKind.i64.wrap ((n : Int) + 1 - 1) = (n : Int) := by rw [show (n : Int) + 1 - 1 = (n : Int) from by omega]; exact IntWalk.i64_in _ (by omega)
          have hwn2 : IntKind.i64.wrap (n : Int) = (n : Int) := IntWalk.i64_in _ (by omega)
          have hfin : decide (wrap64 ((rt y).a + ((rt y).s.size : Int)) ≤ (a : Int)) = true := by
            have e : ((rt y).s.size : Int) = (y.text.length : Int) := by
              show ((y.text.toArray.size : Nat) : Int) = _
              rw [List.size_toArray]
            rw [e]
            show decide (wrap64 ((y.pos : Int) + (y.text.length : Int)) ≤ (a : Int)) = true
            rw [IntWalk.wrap64_in _ (by have := hsz.out; have := HL.out; omega), decide_eq_true_eq]
            omega
          have HF := Lib.hid hfin
          clear hfin
          have HI := Lib.hid hi
          have HY := Lib.hid hy
          have HLN := Lib.hid hlen
          clear hall hts hyt
          go_enter Tryd.func10, Tryd.ntmps10
          go_wp2_with fail
          refine (sane_any w hg).mono ?_
          rintro e w1 ⟨rfl, hO⟩
          go_wp2_with fail
          refine (scan_fails t (by have := hsz.out; omega) w1 (hg.old hO) HR.out).mono ?_
          rintro e w2 ⟨la, lc, rfl, hO2⟩
          have hO' := hO.trans hO2
          clear hO hO2
          go_wp2_with fail
          refine (scan_gives (t.extract 0 a) (by have := HE.out; omega) w2 (hg.old hO') HU.out).mono ?_
          rintro e w3 ⟨la3, lc3, rfl, hT, hO3⟩
          obtain ⟨g, o, rfl, hgl, x0, x1, x2, x3⟩ := hT n (by rw [List.length_map]; exact HI.out)
          rw [List.getElem_map, HY.out] at x2 x3
          rw [HLN.out]
          have hO3' := hO'.trans hO3
          clear hO' hO3 x0 x1 hT
          go_wp2_with fail
          go_quiet (fail)
          go_wp2
          go_ret
          exact ⟨ret_bool HF.out, hO3'.drewN _⟩
end Go.Proofs.YtemahghlpbdhiaaDoor
