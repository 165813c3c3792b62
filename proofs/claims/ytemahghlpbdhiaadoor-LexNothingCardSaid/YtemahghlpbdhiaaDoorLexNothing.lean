/- LexNothing, walked. -/
import Derived.Test.YtemahghlpbdhiaaDoorLexParts
import Derived.Test.YtemahghlpbdhiaaDoorStripPure
namespace Lx
/-- What the tokens of a text and the text without its comments have to do with each other. -/
structure Nothing (l l' : List B) (ts : List Tok) : Prop where
  len : l'.length = l.length
  scan : scan l' 0 = .ok ts []
  feed : ∀ i, peek l' i = 10 ↔ peek l i = 10
  gap : ∀ i, i ≤ ts.length → endOf 0 ts i ≤ startOf l.length ts i
  blank : ∀ i, i ≤ ts.length → ∀ a, endOf 0 ts i ≤ a → a < startOf l.length ts i → space (peek l' a) = true
  toks : ∀ t ∈ ts, t.pos + t.text.length ≤ l.length ∧ t.text = (l.drop t.pos).take t.text.length ∧ t.text = (l'.drop t.pos).take t.text.length
theorem nothing_of {l : List B} {ts : List Tok} {cs : List (Nat × Nat)} (h : scan l 0 = .ok ts cs) : Nothing l (strip l cs) ts := by
  obtain ⟨l', e, hF, hs⟩ := scan_strip _ l 0 ts cs [] (Nat.le_refl _) rfl h
  rw [List.nil_append, List.nil_append] at e
  subst e
  have hg := scan_gaps _ _ 0 ts (Nat.le_refl _) hs
  rw [Nat.zero_add, hF.1] at hg
  refine ⟨hF.1, hs, fun i => ?_, fun i hi => (hg i hi).1, fun i hi a h1 h2 => ?_, fun t ht => ?_⟩
  · rcases hF.2 i with e | ⟨e, e'⟩
    · rw [e]
    · rw [e]; exact ⟨fun h => absurd h (by decide), fun h => absurd h e'⟩
  · have := ((hg i hi).2 a h1 h2).2
    rwa [Nat.sub_zero] at this
  · have h1 := scan_toks _ _ _ _ _ (Nat.le_refl _) h t ht
    have h2 := scan_toks _ _ _ _ _ (Nat.le_refl _) hs t ht
    rw [Nat.sub_zero] at h1 h2
    exact ⟨by omega, h1.2.2.1, h2.2.2.1⟩
theorem Nothing.ends {l l' : List B} {ts : List Tok} (h : Nothing l l' ts) {i : Nat} (hi : i < ts.length) : endOf 0 ts (i + 1) = ts[i].pos + ts[i].text.length := by
  simp only [endOf, List.getElem?_eq_getElem hi]
theorem starts_at {len : Nat} {ts : List Tok} {i : Nat} (hi : i < ts.length) : startOf len ts i = ts[i].pos := by
  unfold startOf
  rw [List.getElem?_eq_getElem hi]
theorem starts_end {len : Nat} {ts : List Tok} : startOf len ts ts.length = len := by
  unfold startOf
  rw [List.getElem?_eq_none (Nat.le_refl _)]
end Lx
namespace Go.Proofs.YtemahghlpbdhiaaDoor
open Go.RowKit

theorem upto_code {l : List UInt8} {m a : Nat} {x : Int} (h : Lx.upto l m = .err a x) : x ≠ 0 := by
  unfold Lx.upto at h
  split at h
  · cases h; decide
  · exact code_ne h

theorem byte_ten (c : UInt8) : (((c.toNat : Int) == 10) = true ↔ c = 10) := by
  constructor
  · intro h
    have h := of_decide_eq_true h
    exact UInt8.toNat_inj.1 (by have e : (10 : UInt8).toNat = 10 := rfl; omega)
  · intro h; subst h; rfl
theorem blank_facts {c d : UInt8} (hs : Lx.space c = true) (hf : c = 10 ↔ d = 10) :
    (((c.toNat : Int) == 32) = true ∧ ((c.toNat : Int) == 10) = false ∧ ((d.toNat : Int) == 10) = false) ∨
    (((c.toNat : Int) == 32) = false ∧ ((c.toNat : Int) == 9) = true ∧ ((c.toNat : Int) == 10) = false ∧ ((d.toNat : Int) == 10) = false) ∨
    (((c.toNat : Int) == 32) = false ∧ ((c.toNat : Int) == 9) = false ∧ ((c.toNat : Int) == 10) = true ∧ ((d.toNat : Int) == 10) = true) ∨
    (((c.toNat : Int) == 32) = false ∧ ((c.toNat : Int) == 9) = false ∧ ((c.toNat : Int) == 10) = false ∧ ((c.toNat : Int) == 13) = true ∧ ((d.toNat : Int) == 10) = false) := by
  have hd : ((d.toNat : Int) == 10) = decide (d = 10) := by
    rw [Bool.eq_iff_iff, decide_eq_true_eq]; exact byte_ten d
  rcases Lx.space_cases hs with rfl | rfl | rfl | rfl
  · refine .inr (.inl ⟨rfl, rfl, rfl, ?_⟩)
    rw [hd, decide_eq_false_iff_not]; exact fun e => absurd (hf.2 e) (by decide)
  · refine .inr (.inr (.inl ⟨rfl, rfl, rfl, ?_⟩))
    rw [hd, decide_eq_true_eq]; exact hf.1 rfl
  · refine .inr (.inr (.inr ⟨rfl, rfl, rfl, rfl, ?_⟩))
    rw [hd, decide_eq_false_iff_not]; exact fun e => absurd (hf.2 e) (by decide)
  · refine .inl ⟨rfl, rfl, ?_⟩
    rw [hd, decide_eq_false_iff_not]; exact fun e => absurd (hf.2 e) (by decide)
theorem stripV_ok (t : ByteArray) (ts : List Lx.Tok) (C : List (Nat × Nat)) : stripV t (.ok ts C) = .tuple #[.string ⟨(Lx.strip t.data.toList C).toArray⟩, .int .i64 0, .int .i64 0] := rfl
theorem peek_at {S : ByteArray} {b : Nat} (h : b < S.size) : Lx.peek S.data.toList b = S[b] := by
  have := peek_in (t := S) (p := 0) (n := b) (by omega)
  simpa [rest_zero] using this
theorem upto_ok {l : List UInt8} {m : Nat} {ts : List Lx.Tok} {C : List (Nat × Nat)} (h : Lx.upto l m = .ok ts C) : l.length ≤ m ∧ Lx.scan l 0 = .ok ts C := by
  unfold Lx.upto at h
  split at h
  · cases h
  · exact ⟨by omega, h⟩
theorem extract_is {S : ByteArray} {q : Nat} {x : List UInt8} (h : x = (S.data.toList.drop q).take x.length) : S.extract q (q + x.length) = ⟨x.toArray⟩ := by
  have := extract_take S q x.length
  have e : (rest S q).take x.length = x := h.symm
  rw [e] at this
  apply ByteArray.ext
  have h2 := congrArg List.toArray this
  rwa [Array.toArray_toList] at h2
/-- What holds of the bytes between two tokens. -/
theorem gap_facts {t S : ByteArray} {ts : List Lx.Tok} (N : Lx.Nothing t.data.toList S.data.toList ts) (hsz : S.size = t.size) {i : Nat} (hi : i ≤ ts.length) {a q : Nat} (ha : a = Lx.endOf 0 ts i) (hq : q = Lx.startOf t.size ts i) (hqt : q ≤ t.size) :
    ∀ b, a ≤ b → b < q → ∃ (h1 : b < S.size) (h2 : b < t.size), Lx.space S[b] = true ∧ (S[b] = 10 ↔ t[b] = 10) := by
  intro b h1 h2
  have hb : b < t.size := by omega
  refine ⟨by omega, hb, ?_, ?_⟩
  · have := N.blank i hi b (by omega) (by rw [size_list]; omega)
    rwa [peek_at (by omega)] at this
  · have := N.feed b
    rwa [peek_at (by omega), peek_at hb] at this

set_option maxRecDepth 100000 in
set_option maxHeartbeats 4000000 in
theorem lexNothing_any (t : ByteArray) (ht : t.size ≤ 140737488355328) (w : World) (hg : Gl w) :
    Calls Tryd.prog 8 #[.string t] w fun e w' => e = .returned (.bool true) ∧ Old w w' := by
  cases hr : Lx.upto t.data.toList 20000 with
  | err a x =>
    have hx0 : (x != 0) = true := by simpa using upto_code hr
    have HR := Lib.hid hr
    clear hr
    go_enter Tryd.func8, Tryd.ntmps8
    go_wp2_with fail
    refine (sane_any w hg).mono ?_
    rintro e w1 ⟨rfl, hO⟩
    go_wp2_with fail
    (with_reducible refine (scan_fails t ht w1 (hg.old hO) HR.out).mono ?_)
    rintro e w2 ⟨la, lc, rfl, hO2⟩
    have hO' := hO.trans hO2
    clear hO hO2
    go_wp2_with fail
    (with_reducible refine (strip_any t ht w2 (hg.old hO')).mono ?_)
    rintro e w3 ⟨rfl, hO3⟩
    have hO3' := hO'.trans hO3
    clear hO' hO3
    rw [HR.out]
    unfold stripV
    go_wp2
    go_ret
    exact ⟨rfl, hO3'⟩
  | ok ts C =>
    obtain ⟨hlen, hsc⟩ := upto_ok hr
    rw [size_list] at hlen
    have N0 := Lx.nothing_of hsc
    obtain ⟨S, hS⟩ : ∃ S : ByteArray, (⟨(Lx.strip t.data.toList C).toArray⟩ : ByteArray) = S := ⟨_, rfl⟩
    have hSl : S.data.toList = Lx.strip t.data.toList C := by
      rw [← hS]
    have N : Lx.Nothing t.data.toList S.data.toList ts := by rw [hSl]; exact N0
    have hSs : S.size = t.size := by
      have := N.len
      rw [size_list, size_list] at this
      exact this
    have hu : Lx.upto S.data.toList 20000 = .ok ts [] := by rw [upto_small S (by omega)]; exact N.scan
    obtain ⟨n, hn⟩ : ∃ n, ts.length = n := ⟨_, rfl⟩
    have hcnt := Lx.scan_count hsc
    rw [size_list, hn] at hcnt
    have hne : ((S.size : Int) != (t.size : Int)) = false := by rw [hSs]; simp
    have HN := Lib.hid hn
    have HR := Lib.hid hr
    have HU := Lib.hid hu
    have HS := Lib.hid hS
    have HSS := Lib.hid hSs
    have HSZ := Lib.hid (show t.size ≤ 20000 ∧ S.size ≤ 20000 ∧ n ≤ 40000 by omega)
    have NN := Lib.hid N
    clear hlen hsc N0 hS hSl N hSs hu hn hcnt hr
    go_enter Tryd.func8, Tryd.ntmps8
    go_wp2_with fail
    refine (sane_any w hg).mono ?_
    rintro e w1 ⟨rfl, hO⟩
    go_wp2_with fail
    (with_reducible refine (scan_gives t ht w1 (hg.old hO) HR.out).mono ?_)
    rintro e w2 ⟨la, lc, rfl, hT, hO2⟩
    rw [HN.out]
    have hO' := hO.trans hO2
    clear hO hO2
    go_wp2_with fail
    (with_reducible refine (strip_any t ht w2 (hg.old hO')).mono ?_)
    rintro e w3 ⟨rfl, hO3⟩
    have hO3' := hO'.trans hO3
    have hT3 := hT.old hO3
    clear hO' hO3 hT
    rw [HR.out]
    rw [stripV_ok, HS.out]
    go_wp2_with fail
    (with_reducible refine (scan_gives S (by have := HSZ.out; omega) w3 (hg.old hO3') HU.out).mono ?_)
    rintro e w5 ⟨lm, lmc, rfl, hTm, hO5⟩
    rw [HN.out]
    have hO5' := hO3'.trans hO5
    have hT5 := hT3.old hO5
    clear hO3' hO5 hT3
    go_wp2_with fail
    go_loopg [13, 14] (n + 1) (fun g x y wr => ∃ i a : Nat, g = n + 1 - i ∧ i ≤ n + 1 ∧ y = .int .i64 i ∧ x = .int .i64 a ∧ (i ≤ n → a = Lx.endOf 0 ts i) ∧ Old w5 wr)
    case atStart => exact ⟨0, 0, rfl, Nat.zero_le _, rfl, rfl, fun _ => rfl, Old.refl _⟩
    case round =>
      obtain ⟨i, a, hgk, hi, rfl, rfl, hae, hOr⟩ := hrel
      have HG := Lib.hid hgk
      clear hgk
      have hwi : Hid (wrap64 ((i : Int) + 1) = ((i + 1 : Nat) : Int)) := Lib.hid (by rw [IntWalk.wrap64_in _ (by have := HSZ.out; omega)]; omega)
      by_cases hle : i ≤ n
      · have hdl : decide (i ≤ n) = true := by simp only [decide_eq_true_eq]; omega
        have hae' := hae hle
        have HI := Lib.hid hle
        have hgp := NN.out.gap i (by rw [HN.out]; exact hle)
        rw [size_list, ← hae'] at hgp
        by_cases hlt : i < n
        · have hdn : decide (i < n) = true := by simp only [decide_eq_true_eq]; omega
          have hti : i < ts.length := by rw [HN.out]; exact hlt
          obtain ⟨y, hy⟩ : ∃ y, ts[i] = y := ⟨_, rfl⟩
          have hst : Lx.startOf t.size ts i = y.pos := by rw [Lx.starts_at hti, hy]
          have hen : Lx.endOf 0 ts (i + 1) = y.pos + y.text.length := by rw [NN.out.ends hti, hy]
          have htk := NN.out.toks y (hy ▸ List.getElem_mem hti)
          rw [size_list] at htk
          rw [hst] at hgp
          obtain ⟨Y, hY⟩ : ∃ Y, (rt y).s = Y := ⟨_, rfl⟩
          have hYs : Y.size = y.text.length := by rw [← hY]; show y.text.toArray.size = _; rw [List.size_toArray]
          have hE1 : S.extract y.pos (y.pos + Y.size) = Y := by rw [hYs, extract_is htk.2.2]; exact hY
          have hE2 : t.extract y.pos (y.pos + Y.size) = Y := by rw [hYs, extract_is htk.2.1]; exact hY
          obtain ⟨q, hq⟩ : ∃ q, y.pos = q := ⟨_, rfl⟩
          have hqb : q + Y.size ≤ t.size := by rw [hYs, ← hq]; exact htk.1
          have hgapf := gap_facts NN.out HSS.out (by rw [HN.out]; exact hle) hae' (show q = Lx.startOf t.size ts i by rw [hst, hq]) (by omega)
          rw [hq] at hgp hE1 hE2 hen
          have HGAP := Lib.hid hgapf
          have HAQ := Lib.hid hgp
          have HEN : Hid (Lx.endOf 0 ts (i + 1) = q + Y.size) := Lib.hid (by rw [hen, hYs])
          have hqa : decide (q < a) = false := by simp only [decide_eq_false_iff_not]; omega
          have hqs : S.size = t.size := HSS.out
          have hsl : decide (S.size < q + Y.size) = false := by simp only [decide_eq_false_iff_not]; omega
          have hsl' : decide ((S.size : Int) < (q : Int) + (Y.size : Int)) = false := by simp only [decide_eq_false_iff_not]; omega
          have i1 : (q : Int) ≤ (q : Int) + (Y.size : Int) := by omega
          have i2 : (q : Int) + (Y.size : Int) ≤ (S.size : Int) := by omega
          have i3 : (q : Int) + (Y.size : Int) ≤ (t.size : Int) := by omega
          have i4 : ((q : Int) + (Y.size : Int)).toNat = q + Y.size := by omega
          have i5 : (0 : Int) ≤ (q : Int) + (Y.size : Int) := by omega
          have hni : (i : Int) < (n : Int) := by omega
          obtain ⟨hwq, hwz0⟩ : wrap64 ((q : Int) + (Y.size : Int)) = (q : Int) + (Y.size : Int) ∧ IntKind.i64.wrap ((q : Int) + (Y.size : Int)) = (q : Int) + (Y.size : Int) := by
            have := HSZ.out
            exact ⟨IntWalk.wrap64_in _ (by omega), IntWalk.i64_in _ (by omega)⟩
          have HWQ := Lib.hid hwq
          have HWZ := Lib.hid hwz0
          clear hwq hwz0
          obtain ⟨g, o, rfl, hgl, q0, q1, q2, q3⟩ := (hT5.old hOr) i (by rw [List.length_map]; exact hti)
          obtain ⟨g', o', rfl, hgl', p0, p1, p2, p3⟩ := (hTm.old hOr) i (by rw [List.length_map]; exact hti)
          rw [List.getElem_map, hy] at q0 q1 q2 q3 p0 p1 p2 p3
          rw [hY] at q2 p2
          have q3' : wr.cell? ⟨g, o + i * 4 + 3, none⟩ = some (.int .i64 (q : Int)) := by rw [q3]; show some (Value.int .i64 (y.pos : Int)) = _; rw [hq]
          have p3' : wr.cell? ⟨g', o' + i * 4 + 3, none⟩ = some (.int .i64 (q : Int)) := by rw [p3]; show some (Value.int .i64 (y.pos : Int)) = _; rw [hq]
          have HTI := Lib.hid hti
          have HY := Lib.hid hy
          have HYS := Lib.hid hY
          clear q3 p3 hgapf hae hae' hen htk hst hYs hqs hle hi hgp hy hY hq hqb
          have hwz : IntKind.i64.wrap ((q : Int) + (Y.size : Int)) = (q : Int) + (Y.size : Int) := HWZ.out
          go_wp2_with fail
          go_quiet (fail)
          clear hwz
          go_wp2_with fail
          go_loopg [13] (q - a) (fun g x wr => ∃ b : Nat, g = q - b ∧ a ≤ b ∧ b ≤ q ∧ x = .int .i64 b ∧ Old w5 wr)
          case atStart => exact ⟨a, rfl, Nat.le_refl _, HAQ.out, rfl, hOr.drewN _⟩
          case round =>
            obtain ⟨b, hgb, hab, hbq, rfl, hOb⟩ := hrel
            have HGB := Lib.hid hgb
            clear hgb
            by_cases hbl : b < q
            · have hdb : decide (b < q) = true := by simp only [decide_eq_true_eq]; omega
              obtain ⟨hbS, hbt, hsp, hfd⟩ := HGAP.out b hab hbl
              have hbSi : (b : Int) < (S.size : Int) := by omega
              have hbti : (b : Int) < (t.size : Int) := by omega
              have hwb : Hid (wrap64 ((b : Int) + 1) = ((b + 1 : Nat) : Int)) := Lib.hid (by rw [IntWalk.wrap64_in _ (by have := HSZ.out; omega)]; omega)
              rcases blank_facts hsp hfd with ⟨b1, b2, b3⟩ | ⟨b1, b2, b3, b4⟩ | ⟨b1, b2, b3, b4⟩ | ⟨b1, b2, b3, b4, b5⟩
              all_goals
                clear hsp hfd
                go_wp2_with fail
                go_quiet (fail)
                go_wp2
                go_roundg (q - (b + 1))
                case measure => have := HGB.out; omega
                case rel => exact ⟨b + 1, rfl, by omega, hbl, by first | rfl | rw [hwb.out] | simp, hOb.drewN _⟩
            · have hdb : decide (b < q) = false := by simp only [decide_eq_false_iff_not]; omega
              have hbQ : b = q := by omega
              clear hab hbq hbl
              have e1 := ((hT5.old hOb) i (by rw [List.length_map]; exact HTI.out))
              obtain ⟨g1, o1, he, -, -, -, z2, -⟩ := e1
              cases he
              rw [List.getElem_map, HY.out, HYS.out] at z2
              go_wp2
              go_roundg (n + 1 - (i + 1))
              case measure => have := HG.out; have := HI.out; omega
              case rel => exact ⟨i + 1, q + Y.size, rfl, by have := HI.out; omega, by rw [hwi.out], by first | rfl | (rw [HWQ.out]; rfl) | (rw [HWQ.out]; congr 1), fun _ => HEN.out.symm, hOb⟩
        · have hdn : decide (i < n) = false := by simp only [decide_eq_false_iff_not]; omega
          have hin : i = n := by omega
          have hst : Lx.startOf t.size ts i = t.size := by rw [hin, ← HN.out]; exact Lx.starts_end
          rw [hst] at hgp
          have hgapf := gap_facts NN.out HSS.out (by rw [HN.out]; exact hle) hae' hst.symm (Nat.le_refl _)
          have hqs : t.size = S.size := HSS.out.symm
          rw [hqs] at hgp
          have hgapf' : ∀ b, a ≤ b → b < S.size → ∃ (h1 : b < S.size) (h2 : b < t.size), Lx.space S[b] = true ∧ (S[b] = 10 ↔ t[b] = 10) := fun b h1 h2 => hgapf b h1 (by omega)
          have HGAP := Lib.hid hgapf'
          have HAQ := Lib.hid hgp
          clear hgapf hgapf' hae hae' hst hqs hle hi hgp hin
          go_wp2_with fail
          go_loopg [13] (S.size - a) (fun g x wr => ∃ b : Nat, g = S.size - b ∧ a ≤ b ∧ b ≤ S.size ∧ x = .int .i64 b ∧ Old w5 wr)
          case atStart => exact ⟨a, rfl, Nat.le_refl _, HAQ.out, rfl, hOr⟩
          case round =>
            obtain ⟨b, hgb, hab, hbq, rfl, hOb⟩ := hrel
            have HGB := Lib.hid hgb
            clear hgb
            by_cases hbl : b < S.size
            · have hdb : decide (b < S.size) = true := by simp only [decide_eq_true_eq]; omega
              obtain ⟨hbS, hbt, hsp, hfd⟩ := HGAP.out b hab hbl
              have hbSi : (b : Int) < (S.size : Int) := by omega
              have hbti : (b : Int) < (t.size : Int) := by omega
              have hwb : Hid (wrap64 ((b : Int) + 1) = ((b + 1 : Nat) : Int)) := Lib.hid (by rw [IntWalk.wrap64_in _ (by have := HSZ.out; omega)]; omega)
              rcases blank_facts hsp hfd with ⟨b1, b2, b3⟩ | ⟨b1, b2, b3, b4⟩ | ⟨b1, b2, b3, b4⟩ | ⟨b1, b2, b3, b4, b5⟩
              all_goals
                clear hsp hfd
                go_wp2_with fail
                go_quiet (fail)
                go_wp2
                go_roundg (S.size - (b + 1))
                case measure => have := HGB.out; omega
                case rel => exact ⟨b + 1, rfl, by omega, hbl, by first | rfl | rw [hwb.out] | simp, hOb.drewN _⟩
            · have hdb : decide (b < S.size) = false := by simp only [decide_eq_false_iff_not]; omega
              have hbQ : b = S.size := by omega
              clear hab hbq hbl
              go_wp2
              go_roundg (n + 1 - (i + 1))
              case measure => have := HG.out; have := HI.out; omega
              case rel => exact ⟨i + 1, _, rfl, by have := HI.out; omega, by rw [hwi.out], rfl, fun h => by exfalso; have h1 := of_decide_eq_false hdn; omega, hOb⟩
      · have hdl : decide (i ≤ n) = false := by simp only [decide_eq_false_iff_not]; omega
        clear hle hi hae
        go_wp2
        go_ret
        exact ⟨rfl, hO5'.trans hOr⟩
end Go.Proofs.YtemahghlpbdhiaaDoor
