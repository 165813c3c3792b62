/- Long, the scan of longer texts. LexScans, walked. LexScans: its row, and its card. -/
import Derived.Test.YtdchnjijdkgfhaaGreatDoorEnds
import Derived.Test.YtdchnjijdkgfhaaGreatDoorMScansA
import Derived.Test.YtdchnjijdkgfhaaGreatDoorMSame
import Derived.Test.YtdchnjijdkgfhaaGreatDoorLaid
import Derived.Test.YtdchnjijdkgfhaaGreatDoorCards
import Derived.Test.YtdchnjijdkgfhaaGreatDoorTie
import Derived.SevenTiedAt
import Derived.ChangeMaps5
namespace Go.Proofs.YtdchnjijdkgfhaaGreatDoor
open Go.RowKit

set_option maxHeartbeats 400000 in
theorem long_any (t : ByteArray) (ht : t.size ≤ 140737488355328) (w : World) (hg : Gl w) :
    Calls Tryz.prog 11 #[.string t] w (ScanPost w (Lx.upto t.data.toList 400000)) := by
  have h6 := hg.lt
  go_enter Tryz.func11, Tryz.ntmps11
  go_wp2_with fail
  refine (new_st t w ht).mono ?_
  rintro e w1 ⟨rfl, hS, hC, hO⟩
  go_wp2_with fail
  refine (all_any w1 w.heap.size t _ hS hC (hg.old hO) h6 400000 (by decide)).mono ?_
  intro e w2 hP
  have hR := scan_post (most := 400000) hO hP
  obtain ⟨lv, rfl, htk, hO2⟩ := hR
  clear hP
  go_wp2
  refine bodyPost_ret (by simp [results, Tryz.results11, go_sem]) rfl ⟨_, rfl, htk, hO2⟩

end Go.Proofs.YtdchnjijdkgfhaaGreatDoor

namespace Go.Proofs.YtdchnjijdkgfhaaGreatDoor
open Go.RowKit

/-- What a scan hands back, in one form for tokens and for errors. -/
theorem scan_uni (t : ByteArray) (ht : t.size ≤ 140737488355328) (w : World) (hg : Gl w) {r : Lx.Scan} (hr : Hid (Lx.upto t.data.toList 20000 = r)) {n : Nat} (hn : Hid (r.toks.length = n)) :
    Calls Tryz.prog 7 #[.string t] w fun e w' => ∃ la lc, e = .returned (.tuple #[.slice la n lc, .int .i64 r.at_, .int .i64 r.code]) ∧ TlAt w' la (r.toks.map rt) ∧ Old w w' := by
  refine (scan_any t ht w hg).mono ?_
  intro e w' hp
  rw [hr.out] at hp
  obtain ⟨lv, rfl, htk, hO⟩ := hp
  obtain ⟨la, lc, rfl, hT, _⟩ := htk.form
  rw [hn.out]
  exact ⟨la, lc, rfl, hT, hO⟩
theorem long_uni (t : ByteArray) (ht : t.size ≤ 140737488355328) (w : World) (hg : Gl w) {r : Lx.Scan} (hr : Hid (Lx.upto t.data.toList 400000 = r)) {n : Nat} (hn : Hid (r.toks.length = n)) :
    Calls Tryz.prog 11 #[.string t] w fun e w' => ∃ la lc, e = .returned (.tuple #[.slice la n lc, .int .i64 r.at_, .int .i64 r.code]) ∧ TlAt w' la (r.toks.map rt) ∧ Old w w' := by
  refine (long_any t ht w hg).mono ?_
  intro e w' hp
  rw [hr.out] at hp
  obtain ⟨lv, rfl, htk, hO⟩ := hp
  obtain ⟨la, lc, rfl, hT, _⟩ := htk.form
  rw [hn.out]
  exact ⟨la, lc, rfl, hT, hO⟩
theorem uptoPost_uni {w w' : World} {r : Lx.Scan} {e : Ending} {n : Nat} (hn : Hid (r.toks.length = n)) (h : UptoPost w r e w') :
    ∃ la lc ca m cc, e = .returned (.agg #[.slice la n lc, .slice ca m cc, .int .i64 r.at_, .int .i64 r.code]) ∧ TlAt w' la (r.toks.map rt) ∧ Old w w' := by
  obtain ⟨lv, cv, rfl, hT, hC, hO⟩ := h
  obtain ⟨la, lc, rfl, hL⟩ := hT.form
  obtain ⟨ca, cc, rfl⟩ := own_slice hC
  rw [hn.out]
  exact ⟨la, lc, ca, _, cc, rfl, hL, hO⟩
theorem scanR_uni (t : ByteArray) (ht : t.size ≤ 140737488355328) (w : World) {r : Lx.Scan} (hr : Hid (Lx.upto t.data.toList 20000 = r)) {n : Nat} (hn : Hid (r.toks.length = n)) :
    Calls Tryz.prog 8 #[.string t] w fun e w' => ∃ la lc ca m cc, e = .returned (.agg #[.slice la n lc, .slice ca m cc, .int .i64 r.at_, .int .i64 r.code]) ∧ TlAt w' la (r.toks.map rt) ∧ Old w w' := by
  refine (scanR_any t ht w).mono ?_
  intro e w' hp
  rw [hr.out] at hp
  exact uptoPost_uni hn hp
theorem uptoR_uni (t : ByteArray) (ht : t.size ≤ 140737488355328) (w : World) {r : Lx.Scan} (hr : Hid (Lx.upto t.data.toList 400000 = r)) {n : Nat} (hn : Hid (r.toks.length = n)) :
    Calls Tryz.prog 12 #[.string t, .int .i64 400000] w fun e w' => ∃ la lc ca m cc, e = .returned (.agg #[.slice la n lc, .slice ca m cc, .int .i64 r.at_, .int .i64 r.code]) ∧ TlAt w' la (r.toks.map rt) ∧ Old w w' := by
  refine (uptoR_int t ht 400000 400000 (by decide) (by decide) hr w).mono ?_
  intro e w' hp
  exact uptoPost_uni hn hp
theorem strip_uni (t : ByteArray) (ht : t.size ≤ 140737488355328) (w : World) (hg : Gl w) {r : Lx.Scan} (hr : Hid (Lx.upto t.data.toList 20000 = r)) :
    Calls Tryz.prog 9 #[.string t] w fun e w' => e = .returned (.tuple #[.string (stripS t r), .int .i64 r.at_, .int .i64 r.code]) ∧ Old w w' := by
  have h := strip_any t ht w hg
  rwa [hr.out, stripV_uni] at h
theorem toks_small {l : List UInt8} {m : Nat} {r : Lx.Scan} (h : Lx.upto l m = r) (hm : m ≤ 400000) : r.toks.length ≤ 800000 := by
  unfold Lx.upto at h
  split at h
  · rw [← h]; exact Nat.zero_le _
  · cases r with
    | err p x => exact Nat.zero_le _
    | ok ts C => have := Lx.scan_count h; show ts.length ≤ _; omega

set_option maxRecDepth 100000 in
set_option maxHeartbeats 4000000 in
theorem lexScans_any (s : ByteArray) (hs : s.size ≤ 140737488355328) (w : World) (hg : Gl w) :
    Calls Tryz.prog 3 #[.string s] w fun e w' => e = .returned (.bool true) ∧ Old w w' := by
  obtain ⟨r, hr⟩ : ∃ r, Lx.upto s.data.toList 20000 = r := ⟨_, rfl⟩
  obtain ⟨q, hq⟩ : ∃ q, Lx.upto s.data.toList 400000 = q := ⟨_, rfl⟩
  obtain ⟨n, hn⟩ : ∃ n, r.toks.length = n := ⟨_, rfl⟩
  obtain ⟨m, hm⟩ : ∃ m, q.toks.length = m := ⟨_, rfl⟩
  have HN8 : Hid (n ≤ 140737488355328) := Lib.hid (by have := toks_small hr (by decide); omega)
  have HM8 : Hid (m ≤ 140737488355328) := Lib.hid (by have := toks_small hq (by decide); omega)
  have HR := Lib.hid hr
  have HQ := Lib.hid hq
  have HN := Lib.hid hn
  have HM := Lib.hid hm
  have HLN : Hid ((r.toks.map rt).length = n) := Lib.hid (by rw [List.length_map]; exact hn)
  have HLM : Hid ((q.toks.map rt).length = m) := Lib.hid (by rw [List.length_map]; exact hm)
  clear hr hq hn hm
  obtain ⟨ra, hra⟩ : ∃ a : Int, (r.at_ : Int) = a := ⟨_, rfl⟩
  obtain ⟨rc, hrc⟩ : ∃ c, r.code = c := ⟨_, rfl⟩
  obtain ⟨qa, hqa⟩ : ∃ a : Int, (q.at_ : Int) = a := ⟨_, rfl⟩
  obtain ⟨qc, hqc⟩ : ∃ c, q.code = c := ⟨_, rfl⟩
  obtain ⟨S, hS⟩ : ∃ S, stripS s r = S := ⟨_, rfl⟩
  have HE : Hid ((r.at_ : Int) = ra ∧ r.code = rc ∧ (q.at_ : Int) = qa ∧ q.code = qc ∧ stripS s r = S) := Lib.hid ⟨hra, hrc, hqa, hqc, hS⟩
  clear hra hrc hqa hqc hS
  go_enter Tryz.func3, Tryz.ntmps3
  go_wp2_with fail
  refine (sane_any w hg).mono ?_
  rintro e w1 ⟨rfl, O1⟩
  go_wp2_with fail
  (with_reducible refine (scan_uni s hs w1 (hg.old O1) HR HN).mono ?_)
  rw [HE.out.1, HE.out.2.1]
  rintro e w2 ⟨la, lc, rfl, T1, P2⟩
  have O2 := O1.trans P2
  clear O1 P2
  go_wp2_with fail
  (with_reducible refine (scanR_uni s hs w2 HR HN).mono ?_)
  rw [HE.out.1, HE.out.2.1]
  rintro e w3 ⟨xa, xc, ya, ym, yc, rfl, T2, P3⟩
  have k7 := Blk.new w3 #[.slice xa n xc, .slice ya ym yc, .int .i64 ra, .int .i64 rc] 29
  have O3 := (O2.trans P3).alloc (.cells #[.slice xa n xc, .slice ya ym yc, .int .i64 ra, .int .i64 rc] 29 (0, 0))
  have U1 := T1.old (P3.alloc (.cells #[.slice xa n xc, .slice ya ym yc, .int .i64 ra, .int .i64 rc] 29 (0, 0)))
  have U2 := T2.old ((Old.refl w3).alloc (.cells #[.slice xa n xc, .slice ya ym yc, .int .i64 ra, .int .i64 rc] 29 (0, 0)))
  clear O2 P3 T1 T2
  go_wp2_with fail
  (with_reducible refine (strip_uni s hs _ (hg.old O3) HR).mono ?_)
  rw [HE.out.1, HE.out.2.1, HE.out.2.2.2.2]
  rintro e w4 ⟨rfl, P4⟩
  have O4 := O3.trans P4
  have V1 := U1.old P4
  have V2 := U2.old P4
  have k7b := k7.keep P4 (fun e => e)
  clear O3 U1 U2 k7 P4
  go_wp2_with fail
  (with_reducible refine (stripR_any s hs w4 HR).mono ?_)
  rw [HE.out.1, HE.out.2.1, HE.out.2.2.2.2]
  rintro e w5 ⟨rfl, P5⟩
  have k11 := Blk.new w5 #[.string S, .int .i64 ra, .int .i64 rc] 34
  have P5' := P5.alloc (.cells #[.string S, .int .i64 ra, .int .i64 rc] 34 (0, 0))
  have O5 := O4.trans P5'
  have W1 := V1.old P5'
  have W2 := V2.old P5'
  have k7c := k7b.keep P5' (fun e => e)
  clear O4 V1 V2 k7b P5 P5'
  go_wp2_with fail
  (with_reducible refine (long_uni s hs _ (hg.old O5) HQ HM).mono ?_)
  rw [HE.out.2.2.1, HE.out.2.2.2.1]
  rintro e w6 ⟨ma, mc, rfl, T6, P6⟩
  have O6 := O5.trans P6
  have X1 := W1.old P6
  have X2 := W2.old P6
  have k7d := k7c.keep P6 (fun e => e)
  have k11b := k11.keep P6 (fun e => e)
  clear O5 W1 W2 k7c k11 P6
  go_wp2_with fail
  (with_reducible refine (uptoR_uni s hs w6 HQ HM).mono ?_)
  rw [HE.out.2.2.1, HE.out.2.2.2.1]
  rintro e w7 ⟨za, zc, ua, um, uc, rfl, T7, P7⟩
  have k15 := Blk.new w7 #[.slice za m zc, .slice ua um uc, .int .i64 qa, .int .i64 qc] 29
  have P7' := P7.alloc (.cells #[.slice za m zc, .slice ua um uc, .int .i64 qa, .int .i64 qc] 29 (0, 0))
  have O7 := O6.trans P7'
  have Y1 := X1.old P7'
  have Y2 := X2.old P7'
  have Y6 := T6.old P7'
  have Y7 := T7.old ((Old.refl w7).alloc (.cells #[.slice za m zc, .slice ua um uc, .int .i64 qa, .int .i64 qc] 29 (0, 0)))
  have k7e := k7d.keep P7' (fun e => e)
  have k11c := k11b.keep P7' (fun e => e)
  clear O6 X1 X2 T6 T7 k7d k11b P7 P7'
  obtain ⟨c0, c1, c2, c3, -⟩ := k15.four
  go_wp2_with fail
  clear c0 c1 c2 c3
  (with_reducible refine (equalRR_self (q.toks.map rt) m HLM.out ma za mc zc _ Y6 Y7 HM8.out).mono ?_)
  rintro e w8 ⟨rfl, P8⟩
  have O8 := O7.trans P8
  have Z1 := Y1.old P8
  have Z2 := Y2.old P8
  have k7f := k7e.keep P8 (fun e => e)
  have k11d := k11c.keep P8 (fun e => e)
  have k15b := k15.keep P8 (fun e => e)
  clear O7 Y1 Y2 Y6 Y7 k7e k11c k15 P8
  obtain ⟨c0, c1, c2, c3, -⟩ := k15b.four
  obtain ⟨d0, d1, d2, d3, -⟩ := k7f.four
  go_wp2_with fail
  clear c0 c1 c2 c3 d0 d1 d2 d3
  (with_reducible refine (equalRR_self (r.toks.map rt) n HLN.out la xa lc xc _ Z1 Z2 HN8.out).mono ?_)
  rintro e w9 ⟨rfl, P9⟩
  have O9 := O8.trans P9
  have k7g := k7f.keep P9 (fun e => e)
  have k11e := k11d.keep P9 (fun e => e)
  clear O8 Z1 Z2 k7f k11d k15b P9
  obtain ⟨d0, d1, d2, d3, -⟩ := k7g.four
  have e0 := k11e.cell (i := 0) rfl
  have e1 := k11e.cell (i := 1) rfl
  have e2 := k11e.cell (i := 2) rfl
  go_wp2
  go_ret
  exact ⟨rfl, O9⟩
end Go.Proofs.YtdchnjijdkgfhaaGreatDoor

namespace Go.Proofs.YtdchnjijdkgfhaaGreatDoor
open Go.ChangeShapes Go.WideShapes Go.ChangeAt Go.WideMaps Go.WideElems Go.RowKit
open Go.ChangeMaps (open_string shut_string)

theorem int_le {n : Int} (h : (Lit.int .i64 n).wf = true) : n ≤ 9223372036854775807 := (bounds_i64 h).2
theorem int_ge {n : Int} (h : (Lit.int .i64 n).wf = true) : -9223372036854775808 ≤ n := (bounds_i64 h).1

set_option maxRecDepth 100000 in
theorem lexScans_lifted (os : Os) (started : os.Started) (H : Type) (enc : TypeId × Value → H) :
    ReturnsInHanded {} Tryz.checked os 3 .any (fun w args => (Rows.lexScansSpec.pre enc Tryz.prog Tryz.f3 [] false w args ∧ laidMetH Tryz.prog laid5 w) ∧ sizedMet enc Tryz.prog Tryz.f3 (OpenSpec.ofChange Rows.lexScansSpec) false w args)
      (Rows.lexScansSpec.post enc Tryz.prog Tryz.f3 false true false false) := by
  refine returnsInHanded_of_change_and (C := Tryz.checked) (X := fun w _ => laidMetH Tryz.prog laid5 w) (fun _ _ _ hh h => h.of_heap hh) own started (by kernel_rfl) Tryz.func3
    (ChangeSpec.witness_shaped (enc := enc) (C := Tryz.checked) (os := os) (X := fun w _ => laidMetH Tryz.prog laid5 w) false (World.doorLaid Tryz.prog 400 os) #[.string ⟨#[]⟩] 8 rfl (World.shaped_of_RefB (by kernel_rfl) (by kernel_rfl)) (by kernel_rfl) (by kernel_rfl) (by kernel_rfl) (door_met os _)) ?_
  intro W base args ds gs before hval0 hW _ hWt hL _
  have hval : ∀ (j : Nat) t v, Tryz.f3.params[j]? = some t → args[j]? = some v → Value.okWide Tryz.prog W .any base t v := hval0
  have hW' := hW
  obtain ⟨p, q, hA0, hV, rfl, hfz, hnd⟩ := hW
  have hA : DataW.TrodAll enc Tryz.prog W 0 (fun _ => true) true Tryz.f3.params.toList args.toList ds p := hA0
  rw [Tryz.params3] at hA hval hWt
  obtain ⟨v0, d0, rfl, rfl, h0⟩ := trodAll_one hA
  obtain ⟨rfl, rfl⟩ := trodVars_none hV
  obtain ⟨s, rfl, rfl, rfl, ws⟩ := open_string Tryz.underlying9 (hval 0 9 v0 rfl rfl) h0
  have bs : s.size ≤ 140737488355328 := by
    have h := List.all_eq_true.1 hWt s.data.toList.length (by simp [DataW.weightsEach, DataW.weights])
    have h := of_decide_eq_true h
    rw [Array.length_toList] at h
    exact Nat.le_trans h (by decide)
  have hG : Gl W := of_laid hL
  clear hA0 hval0
  simp only [List.append_nil] at hW'
  refine (lexScans_any s bs W hG).mono fun e W' ⟨he, hO⟩ => ?_
  subst he
  have bel : Below W.heap.size W W' := Fr.below hO (Nat.le_refl _) (fun k e => e.elim)
  refine ⟨_, rfl, _, _, _, [], [], [], hW', ?_, ?_, ?_, bel.frame _, fun h => by cases h⟩
  · exact trodAll_mk1 (shut_bool Tryz.underlying4 _)
  · exact trodAll_mk1 (shut_string Tryz.underlying9 ws)
  · rfl

theorem lexScans_holds : Rows.LexScansSaid :=
  OpenClaim.holds_of_wide 3 Tryz.f3 rfl rfl rfl rfl rfl rfl rfl ⟨rfl, rfl, rfl, rfl, rfl⟩ rfl rfl rfl rfl rfl (by kernel_rfl) Tryz.func3 (by kernel_rfl)
    (of_decide_eq_true (by kernel_rfl)) (by unfold Func.isWrapper; first | (rw [if_pos (by decide +kernel)]; kernel_rfl) | (rw [if_neg (by decide +kernel)]; exact ⟨rfl, rfl⟩))
    (fun os started H enc _ => lexScans_lifted os started H enc)

theorem lexScans_card : Rows.LexScansCardSaid :=
  Claim7.holds_tied_plain_at .later [] [.data, .data, .data, .sentinel, .sentinel] true (true, "b0b710d89615814b765ca1819ab5255a3b926f2071bf1a311920efbbf6b4d4f1") true
    lexScans_holds (fun _ h => by cases h) (by kernel_rfl) (fun _ h => by cases h) lexScans_row_tie rfl ⟨rfl, rfl⟩ (by kernel_rfl) rfl
    (fun f fn hf hfn => by
      obtain rfl : f = 3 := Option.some.inj ((show Tryz.prog.funcNamed "restitch/restitchlaw01.LexScans" = some 3 by kernel_rfl).symm.trans hf) |>.symm
      obtain rfl : fn = Tryz.f3 := (Option.some.inj (Tryz.func3.symm.trans hfn)).symm
      exact ⟨by kernel_rfl, fun j t ht => by
        rw [Tryz.params3] at ht
        have hm : t ∈ [9] := by simpa using Array.mem_of_getElem? ht
        have hall : ([9].all fun u => !Tryz.prog.wantsStandIn u) = true := by kernel_rfl
        exact (show Tryz.prog.wantsStandIn t = false by simpa using List.all_eq_true.1 hall t hm)⟩)
    (by kernel_rfl)
end Go.Proofs.YtdchnjijdkgfhaaGreatDoor
