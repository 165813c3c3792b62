/- LexParts, walked. -/
import Derived.Test.YtemahghlpbdhiaaDoorLexPrefix
namespace Go.Proofs.YtemahghlpbdhiaaDoor
open Go.RowKit

theorem toks_ok (ts : List Lx.Tok) (cs : List (Nat × Nat)) : (Lx.Scan.ok ts cs).toks = ts := rfl
theorem scan_gen (t : ByteArray) (ht : t.size ≤ 140737488355328) (w : World) (hg : Gl w) {r : Lx.Scan} (h : Lx.upto t.data.toList 20000 = r) :
    Calls Tryd.prog 22 #[.string t] w fun e w' => ∃ la lc, e = .returned (.tuple #[.slice la r.toks.length lc, .int .i64 r.at_, .int .i64 r.code]) ∧ TlAt w' la (r.toks.map rt) ∧ Old w w' := by
  refine (scan_any t ht w hg).mono ?_
  intro e w' hp
  rw [h] at hp
  obtain ⟨lv, rfl, htk, hO⟩ := hp
  obtain ⟨la, lc, rfl, hT, _⟩ := htk.form
  exact ⟨la, lc, rfl, hT, hO⟩

/-- The same with names for what a scan has. -/
theorem scan_gen' (t : ByteArray) (ht : t.size ≤ 140737488355328) (w : World) (hg : Gl w) {r : Lx.Scan} (h : Lx.upto t.data.toList 20000 = r) {n a : Nat} {x : Int} (hn : r.toks.length = n) (ha : r.at_ = a) (hx : r.code = x) :
    Calls Tryd.prog 22 #[.string t] w fun e w' => ∃ la lc, e = .returned (.tuple #[.slice la n lc, .int .i64 a, .int .i64 x]) ∧ TlAt w' la (r.toks.map rt) ∧ Old w w' := by
  subst hn ha hx
  exact scan_gen t ht w hg h
theorem two_list (a b : ByteArray) : (a ++ ⟨#[10]⟩ ++ b).data.toList = a.data.toList ++ 10 :: b.data.toList := by simp
theorem two_size (a b : ByteArray) : (a ++ ⟨#[10]⟩ ++ b).size = a.size + 1 + b.size := by
  have := congrArg List.length (two_list a b)
  rw [size_list, List.length_append, List.length_cons, size_list, size_list] at this
  omega

/-- What the tokens of both texts are in both together. -/
theorem parts_toks {x y : List Lx.Tok} {d i : Nat} (h1 : i < x.length) : (x ++ y.map (Lx.Tok.shift d))[i]? = some x[i] := by
  rw [List.getElem?_append_left h1, List.getElem?_eq_getElem h1]
theorem parts_toks' {x y : List Lx.Tok} {d i : Nat} (h1 : x.length ≤ i) (h2 : i - x.length < y.length) : (x ++ y.map (Lx.Tok.shift d))[i]? = some (y[i - x.length].shift d) := by
  rw [List.getElem?_append_right h1, List.getElem?_map, List.getElem?_eq_getElem h2]
  rfl

set_option maxRecDepth 100000 in
set_option maxHeartbeats 600000 in
theorem lexParts_any (a b : ByteArray) (ha : a.size ≤ 140737488355328) (hb : b.size ≤ 140737488355328) (w : World) (hg : Gl w) :
    Calls Tryd.prog 7 #[.string a, .string b] w fun e w' => e = .returned (.bool true) ∧ Old w w' := by
  have hw1 : wrap64 ((a.size : Int) + 1) = (a.size : Int) + 1 := IntWalk.wrap64_in _ (by omega)
  have hw2 : wrap64 ((a.size : Int) + 1 + (b.size : Int)) = (a.size : Int) + 1 + (b.size : Int) := IntWalk.wrap64_in _ (by omega)
  by_cases hA : 20000 < a.size
  · have hd : decide ((20000 : Int) < (a.size : Int)) = true := by simp only [decide_eq_true_eq]; omega
    clear hA
    go_enter Tryd.func7, Tryd.ntmps7
    go_wp2_with fail
    refine (sane_any w hg).mono ?_
    rintro e w1 ⟨rfl, hO⟩
    go_wp2
    go_ret
    exact ⟨rfl, hO⟩
  · have hdA : decide ((20000 : Int) < (a.size : Int)) = false := by simp only [decide_eq_false_iff_not]; omega
    by_cases hB : 20000 < b.size
    · have hd : decide ((20000 : Int) < (b.size : Int)) = true := by simp only [decide_eq_true_eq]; omega
      clear hA hB
      go_enter Tryd.func7, Tryd.ntmps7
      go_wp2_with fail
      refine (sane_any w hg).mono ?_
      rintro e w1 ⟨rfl, hO⟩
      go_wp2
      go_ret
      exact ⟨rfl, hO⟩
    · have hdB : decide ((20000 : Int) < (b.size : Int)) = false := by simp only [decide_eq_false_iff_not]; omega
      by_cases hAB : 20000 < a.size + 1 + b.size
      · have hd : decide ((20000 : Int) < (a.size : Int) + 1 + (b.size : Int)) = true := by simp only [decide_eq_true_eq]; omega
        clear hA hB hAB
        go_enter Tryd.func7, Tryd.ntmps7
        go_wp2_with fail
        refine (sane_any w hg).mono ?_
        rintro e w1 ⟨rfl, hO⟩
        go_wp2
        go_ret
        exact ⟨rfl, hO⟩
      · have hdAB : decide ((20000 : Int) < (a.size : Int) + 1 + (b.size : Int)) = false := by simp only [decide_eq_false_iff_not]; omega
        have hl1 : ¬ 9223372036854775807 < a.size + 1 := by omega
        have hl2 : ¬ 9223372036854775807 < a.size + 1 + b.size := by omega
        obtain ⟨r1, hr1⟩ : ∃ r, Lx.scan a.data.toList 0 = r := ⟨_, rfl⟩
        obtain ⟨r2, hr2⟩ : ∃ r, Lx.scan b.data.toList 0 = r := ⟨_, rfl⟩
        obtain ⟨r3, hr3⟩ : ∃ r, Lx.scan (a.data.toList ++ 10 :: b.data.toList) 0 = r := ⟨_, rfl⟩
        have hu1 : Lx.upto a.data.toList 20000 = r1 := by rw [upto_small a (by omega)]; exact hr1
        have hu2 : Lx.upto b.data.toList 20000 = r2 := by rw [upto_small b (by omega)]; exact hr2
        have hu3 : Lx.upto (a ++ ⟨#[10]⟩ ++ b).data.toList 20000 = r3 := by rw [upto_small _ (by rw [two_size]; omega), two_list]; exact hr3
        obtain ⟨p1, p2⟩ := Lx.scan_parts a.data.toList b.data.toList 10 rfl
        rw [hr3, hr1] at p1 p2
        rw [hr2, size_list] at p1
        have hs3 : (a ++ ⟨#[10]⟩ ++ b).size ≤ 20000 := by rw [two_size]; omega
        have hSZ := Lib.hid (show a.size ≤ 20000 ∧ b.size ≤ 20000 ∧ a.size + 1 + b.size ≤ 20000 by omega)
        obtain ⟨n1, hn1⟩ : ∃ n, r1.toks.length = n := ⟨_, rfl⟩
        obtain ⟨a1, ha1⟩ : ∃ n, r1.at_ = n := ⟨_, rfl⟩
        obtain ⟨x1, hx1⟩ : ∃ n, r1.code = n := ⟨_, rfl⟩
        obtain ⟨n2, hn2⟩ : ∃ n, r2.toks.length = n := ⟨_, rfl⟩
        obtain ⟨a2, ha2⟩ : ∃ n, r2.at_ = n := ⟨_, rfl⟩
        obtain ⟨x2, hx2⟩ : ∃ n, r2.code = n := ⟨_, rfl⟩
        obtain ⟨n3, hn3⟩ : ∃ n, r3.toks.length = n := ⟨_, rfl⟩
        obtain ⟨a3, ha3⟩ : ∃ n, r3.at_ = n := ⟨_, rfl⟩
        obtain ⟨x3, hx3⟩ : ∃ n, r3.code = n := ⟨_, rfl⟩
        have HN1 := Lib.hid (And.intro hn1 (And.intro ha1 hx1))
        have HN2 := Lib.hid (And.intro hn2 (And.intro ha2 hx2))
        have HN3 := Lib.hid (And.intro hn3 (And.intro ha3 hx3))
        clear hn1 hn2 hn3 ha1 ha2 ha3 hx1 hx2 hx3
        have HP1 := Lib.hid p1
        have HP2 := Lib.hid p2
        clear p1 p2
        have HU1 := Lib.hid hu1
        have HU2 := Lib.hid hu2
        have HU3 := Lib.hid hu3
        have HS3 := Lib.hid hs3
        have HR1 := Lib.hid hr1
        have HR2 := Lib.hid hr2
        clear hu1 hu2 hu3 hs3 hA hB hAB hr3 ha hb hr1 hr2
        go_enter Tryd.func7, Tryd.ntmps7
        go_wp2_with fail
        refine (sane_any w hg).mono ?_
        rintro e w1 ⟨rfl, hO⟩
        go_wp2_with fail
        (with_reducible refine (scan_gen' a (by have := hSZ.out; omega) w1 (hg.old hO) HU1.out HN1.out.1 HN1.out.2.1 HN1.out.2.2).mono ?_)
        rintro e w2 ⟨la, lac, rfl, hT1, hO2⟩
        have hO' := hO.trans hO2
        clear hO hO2
        go_wp2_with fail
        (with_reducible refine (scan_gen' b (by have := hSZ.out; omega) w2 (hg.old hO') HU2.out HN2.out.1 HN2.out.2.1 HN2.out.2.2).mono ?_)
        rintro e w3 ⟨lb, lbc, rfl, hT2, hO3⟩
        have hO3' := hO'.trans hO3
        have hT13 := hT1.old hO3
        clear hO' hO3 hT1
        go_wp2_with fail
        (with_reducible refine (scan_gen' (a ++ ⟨#[10]⟩ ++ b) (by have := HS3.out; omega) w3 (hg.old hO3') HU3.out HN3.out.1 HN3.out.2.1 HN3.out.2.2).mono ?_)
        rintro e w4 ⟨lz, lzc, rfl, hT3, hO4⟩
        have hO4' := hO3'.trans hO4
        have hT14 := hT13.old hO4
        have hT24 := hT2.old hO4
        clear hO3' hO4 hT13 hT2
        clear hw1 hw2 hl1 hl2
        cases r1 with
        | err i x =>
          obtain ⟨h1, h2, h3⟩ := HN1.out
          have h1 : 0 = n1 := h1
          have h2 : i = a1 := h2
          have h3 : x = x1 := h3
          subst h1 h2 h3
          have hx0 : (x != 0) = true := by simpa using code_ne HR1.out
          by_cases hx : x = 12
          · subst hx
            clear hT14 hT24 hT3
            go_wp2
            go_ret
            exact ⟨rfl, hO4'⟩
          · have hx12 : (x == 12) = false := beq_eq_false_iff_ne.2 hx
            have h3 := HP2.out i x rfl hx
            subst h3
            obtain ⟨_, h2, h3⟩ := HN3.out
            have h2 : i = a3 := h2
            have h3 : x = x3 := h3
            subst h2 h3
            clear hT14 hT24 hT3 hx
            go_wp2
            go_ret
            exact ⟨rfl, hO4'⟩
        | ok ts cs =>
          have h3 := HP1.out ts cs rfl
          obtain ⟨e1, e2, e3⟩ := HN1.out
          have e1 : ts.length = n1 := e1
          have e3 : (0 : Int) = x1 := e3
          subst e3
          cases r2 with
          | err j x =>
            obtain ⟨_, f2, f3⟩ := HN2.out
            have f2 : j = a2 := f2
            have f3 : x = x2 := f3
            subst f2 f3
            have hx0 : (x != 0) = true := by simpa using code_ne HR2.out
            have h3 : r3 = .err (j + (a.size + 1)) x := h3
            subst h3
            obtain ⟨_, g2, g3⟩ := HN3.out
            have g2 : j + (a.size + 1) = a3 := g2
            have g3 : x = x3 := g3
            subst g3
            have hjl : j < b.size := by
              obtain ⟨k, hk, hlt, _⟩ := Lx.scan_wrong _ _ _ _ _ (Nat.le_refl _) HR2.out
              rw [size_list] at hlt
              omega
            have hqq : (((a3 : Int)) == (j : Int) + (a.size : Int) + 1) = true := by rw [beq_iff_eq]; omega
            obtain ⟨hww, hww2⟩ : wrap64 ((j : Int) + (a.size : Int)) = (j : Int) + (a.size : Int) ∧ wrap64 ((j : Int) + (a.size : Int) + 1) = (j : Int) + (a.size : Int) + 1 := by
              have := hSZ.out
              exact ⟨IntWalk.wrap64_in _ (by omega), IntWalk.wrap64_in _ (by omega)⟩
            clear hT14 hT24 hT3 hjl g2 e1
            go_wp2
            go_ret
            exact ⟨rfl, hO4'⟩
          | ok ts2 cs2 =>
            have h3 : r3 = .ok (ts ++ ts2.map (Lx.Tok.shift (a.size + 1))) (cs ++ cs2.map fun c => (c.1 + (a.size + 1), c.2 + (a.size + 1))) := h3
            subst h3
            obtain ⟨f1, _, f3⟩ := HN2.out
            have f1 : ts2.length = n2 := f1
            have f3 : (0 : Int) = x2 := f3
            subst f3
            obtain ⟨g1, _, g3⟩ := HN3.out
            have g1 : (ts ++ ts2.map (Lx.Tok.shift (a.size + 1))).length = n3 := g1
            have g3 : (0 : Int) = x3 := g3
            subst g3
            rw [List.length_append, List.length_map, e1, f1] at g1
            have hc1 := Lx.scan_count HR1.out
            have hc2 := Lx.scan_count HR2.out
            rw [size_list] at hc1 hc2
            have hne : ((n3 : Int) != (n1 : Int) + (n2 : Int)) = false := by simp; omega
            have hsum : wrap64 ((n1 : Int) + (n2 : Int)) = (n1 : Int) + (n2 : Int) := IntWalk.wrap64_in _ (by have := hSZ.out; omega)
            have hCC := Lib.hid (And.intro hc1 hc2)
            have HE1 := Lib.hid e1
            have HF1 := Lib.hid f1
            have HG1 := Lib.hid g1
            clear hc1 hc2 e1 f1 g1
            go_wp2_with fail
            go_loopg [15] n3 (fun g x wr => ∃ i : Nat, g = n3 - i ∧ i ≤ n3 ∧ x = .int .i64 i ∧ Old w4 wr)
            case atStart => exact ⟨0, rfl, Nat.zero_le _, rfl, Old.refl _⟩
            case round =>
              clear hsum
              obtain ⟨i, hgk, hi, rfl, hOr⟩ := hrel
              have HG := Lib.hid hgk
              clear hgk
              by_cases hlt : i < n3
              · have hdl : decide (i < n3) = true := by simp only [decide_eq_true_eq]; omega
                have hwi : Hid (wrap64 ((i : Int) + 1) = ((i + 1 : Nat) : Int)) := Lib.hid (by rw [IntWalk.wrap64_in _ (by have := hCC.out; have := HG1.out; have := HE1.out; have := HF1.out; have := hSZ.out; omega)]; omega)
                by_cases hin : i < n1
                · have hdn : decide (i < n1) = true := by simp only [decide_eq_true_eq]; omega
                  have hge : decide (n1 ≤ i) = false := by simp only [decide_eq_false_iff_not]; omega
                  have hti : i < ts.length := by rw [HE1.out]; exact hin
                  obtain ⟨y, hy⟩ : ∃ y, ts[i] = y := ⟨_, rfl⟩
                  obtain ⟨g, o, rfl, hgl, q0, q1, q2, q3⟩ := (hT3.old hOr) i (by rw [List.length_map, toks_ok, List.length_append]; omega)
                  obtain ⟨g', o', rfl, hgl', p0, p1, p2, p3⟩ := (hT14.old hOr) i (by rw [List.length_map]; exact hti)
                  rw [List.getElem_map] at q0 q1 q2 q3 p0 p1 p2 p3
                  have hz : (ts ++ ts2.map (Lx.Tok.shift (a.size + 1)))[i]'(by rw [List.length_append]; omega) = y := by rw [List.getElem_append_left hti, hy]
                  have hz' : (Lx.Scan.ok (ts ++ ts2.map (Lx.Tok.shift (a.size + 1))) (cs ++ cs2.map fun c => (c.1 + (a.size + 1), c.2 + (a.size + 1)))).toks[i]'(by rw [toks_ok, List.length_append]; omega) = y := hz
                  have hy' : (Lx.Scan.ok ts cs).toks[i]'(by rw [toks_ok]; exact hti) = y := hy
                  rw [hz'] at q0 q1 q2 q3
                  rw [hy'] at p0 p1 p2 p3
                  have HI := Lib.hid hlt
                  have hin' : decide ((i : Int) < (n1 : Int)) = true := by simp only [decide_eq_true_eq]; omega
                  have hni : (i : Int) < (n1 : Int) := by omega
                  have hni3 : (i : Int) < (n3 : Int) := by omega
                  clear hi hti hy hz hz' hy'
                  go_wp2_with fail
                  go_quiet (fail)
                  go_wp2
                  go_roundg (n3 - (i + 1))
                  case measure => have := HG.out; have := HI.out; omega
                  case rel => exact ⟨i + 1, rfl, HI.out, by rw [hwi.out], hOr.drewN _⟩
                · have hdn : decide (i < n1) = false := by simp only [decide_eq_false_iff_not]; omega
                  have hge : decide (n1 ≤ i) = true := by simp only [decide_eq_true_eq]; omega
                  have hin' : decide ((i : Int) < (n1 : Int)) = false := by simp only [decide_eq_false_iff_not]; omega
                  have hge' : decide ((n1 : Int) ≤ (i : Int)) = true := by simp only [decide_eq_true_eq]; omega
                  have hi2 : i - n1 < n2 := by have := HG1.out; omega
                  have hti : i - ts.length < ts2.length := by rw [HE1.out, HF1.out]; exact hi2
                  obtain ⟨y, hy⟩ : ∃ y, ts2[i - ts.length] = y := ⟨_, rfl⟩
                  have hln : i < ts.length + ts2.length := by have := HE1.out; have := HF1.out; have := HG1.out; omega
                  have hln' : i < ((Lx.Scan.ok (ts ++ ts2.map (Lx.Tok.shift (a.size + 1))) (cs ++ cs2.map fun c => (c.1 + (a.size + 1), c.2 + (a.size + 1)))).toks.map rt).length := by rw [List.length_map, toks_ok, List.length_append, List.length_map]; exact hln
                  have hz' : (Lx.Scan.ok (ts ++ ts2.map (Lx.Tok.shift (a.size + 1))) (cs ++ cs2.map fun c => (c.1 + (a.size + 1), c.2 + (a.size + 1)))).toks[i]'(by rw [toks_ok, List.length_append, List.length_map]; exact hln) = y.shift (a.size + 1) := by
                    have hh := parts_toks' (x := ts) (y := ts2) (d := a.size + 1) (i := i) (by rw [HE1.out]; omega) hti
                    rw [hy] at hh
                    exact Option.some.inj ((List.getElem?_eq_getElem _).symm.trans hh)
                  have hy' : (Lx.Scan.ok ts2 cs2).toks[i - ts.length]'(by rw [toks_ok]; exact hti) = y := hy
                  have hyb := Lx.scan_toks _ _ _ _ _ (Nat.le_refl _) HR2.out y (hy ▸ List.getElem_mem hti)
                  rw [size_list] at hyb
                  have HYB := Lib.hid (show y.pos ≤ 20000 by have := hSZ.out; omega)
                  clear hyb
                  have HTI := Lib.hid hti
                  have HZ := Lib.hid hz'
                  have HY := Lib.hid hy'
                  have HI := Lib.hid hlt
                  have HLN := Lib.hid hln'
                  have hni : ¬ (i : Int) < (n1 : Int) := by omega
                  have hni3 : (i : Int) < (n3 : Int) := by omega
                  have HIN := Lib.hid hin
                  have HI2 := Lib.hid hi2
                  clear hi hy hz' hy' hln' hin hi2
                  go_wp2_with fail
                  go_quiet (fail)
                  generalize hwq : wr.drewN _ = wq
                  have hOq : Old w4 wq := hwq ▸ hOr.drewN _
                  clear hwq
                  obtain ⟨g, o, rfl, hgl, q0, q1, q2, q3⟩ := (hT3.old hOq) i HLN.out
                  obtain ⟨g', o', rfl, hgl', p0, p1, p2, p3⟩ := (hT24.old hOq) (i - ts.length) (by rw [List.length_map]; exact HTI.out)
                  rw [List.getElem_map, HZ.out] at q0 q1 q2 q3
                  rw [List.getElem_map, HY.out, HE1.out] at p0 p1 p2 p3
                  have k1 : wq.heap.size ≠ g := by omega
                  have k2 : g ≠ wq.heap.size := by omega
                  have k3 : (((i - n1 : Nat) : Int)) < (n2 : Int) := by have := HI2.out; omega
                  have k4 : (0 : Int) ≤ ((i - n1 : Nat) : Int) := by omega
                  have r0 : wq.cell? ⟨g, o + i * 4, none⟩ = some (.int .i64 (rt y).k) := q0
                  have r1 : wq.cell? ⟨g, o + i * 4 + 1, none⟩ = some (.int .i64 (rt y).n) := q1
                  have r2 : wq.cell? ⟨g, o + i * 4 + 2, none⟩ = some (.string (rt y).s) := q2
                  obtain ⟨A, hA⟩ : ∃ A, (rt (y.shift (a.size + 1))).a = A := ⟨_, rfl⟩
                  rw [hA] at q3
                  have hA' : ((y.pos + (a.size + 1) : Nat) : Int) = A := hA
                  have k5 : A = ((y.pos : Int) + (a.size : Int)) + 1 := by omega
                  obtain ⟨w1', w2'⟩ : wrap64 ((i : Int) - (n1 : Int)) = ((i - n1 : Nat) : Int) ∧ wrap64 (wrap64 ((rt y).a + (a.size : Int)) + 1) = A := by
                    have := hSZ.out
                    have := HYB.out
                    have := HG1.out
                    have := HIN.out
                    have e : (rt y).a = (y.pos : Int) := rfl
                    refine ⟨?_, ?_⟩
                    · rw [IntWalk.wrap64_in _ (by have := hCC.out; have := HE1.out; have := HF1.out; omega)]
                      omega
                    · rw [e, IntWalk.wrap64_in ((y.pos : Int) + (a.size : Int)) (by omega), IntWalk.wrap64_in _ (by omega)]
                      omega
                  clear q0 q1 q2 hA hA' k5
                  go_wp2_with fail
                  go_quiet (fail)
                  go_wp2
                  go_roundg (n3 - (i + 1))
                  case measure => have := HG.out; have := HI.out; omega
                  case rel => exact ⟨i + 1, rfl, HI.out, by rw [hwi.out], (hOq.alloc _).drewN _⟩
              · have hdl : decide (i < n3) = false := by simp only [decide_eq_false_iff_not]; omega
                clear hlt hi
                go_wp2
                go_ret
                exact ⟨rfl, hO4'.trans hOr⟩
end Go.Proofs.YtemahghlpbdhiaaDoor
