/- A list of tokens that came in, read. LexChecks, walked. LexChecks: its row, and its card. -/
import Derived.Test.YtdchnjijdkgfhaaGreatDoorLaid
import Derived.Test.YtdchnjijdkgfhaaGreatDoorSaneAll
import Derived.Deep.Slices
import Derived.Carry
import Derived.Test.YtdchnjijdkgfhaaGreatDoorMJoin
import Derived.Test.YtdchnjijdkgfhaaGreatDoorMSame

import Derived.Deep.RegionHeld3
import Derived.Test.YtdchnjijdkgfhaaGreatDoorCards
import Derived.Test.YtdchnjijdkgfhaaGreatDoorTie
import Derived.SevenTiedAt
import Derived.ChangeMaps5
namespace Go.Proofs.YtdchnjijdkgfhaaGreatDoor
open Go.ChangeShapes Go.WideShapes Go.ChangeAt Go.WideMaps Go.WideElems Go.RowKit Go.Deep

theorem laidOut : laidOutB Tryz.prog = true := by kernel_rfl
theorem cellsTok : Tryz.prog.cellsOf 41 = 4 := by kernel_rfl
theorem cellsI : Tryz.prog.cellsOf 3 = 1 := by kernel_rfl
theorem cellsS : Tryz.prog.cellsOf 9 = 1 := by kernel_rfl

theorem mem_weightsAll {H : Type} {P : Program} {e : TypeId} {n : Nat} : ∀ {l : List (DataW H)} {d : DataW H}, d ∈ l → n ∈ d.weights P e → n ∈ DataW.weightsAll P e l
  | [], d, h, _ => by cases h
  | x :: r, d, h, hn => by
    rw [DataW.weightsAll, List.mem_append]
    rcases List.mem_cons.1 h with rfl | h
    · exact .inl hn
    · exact .inr (mem_weightsAll h hn)

instance : Inhabited RT := ⟨⟨0, 0, ⟨#[]⟩, 0⟩⟩
set_option maxRecDepth 100000 in
/-- One token, read. -/
theorem open_tok {H : Type} {enc : TypeId × Value → H} {W : World} {sp : Nat → Bool} {held : Bool} {fuel : Nat} {cs : List Value} {x : DataW H × List MemPlace}
    (h : DataW.trod enc Tryz.prog W 0 sp held fuel 41 cs = some x) : ∃ y : RT, cs = [.int .i64 y.k, .int .i64 y.n, .string y.s, .int .i64 y.a] ∧ y.s.size ∈ x.1.weights Tryz.prog 41 := by
  obtain ⟨xs, n, _, hx, hl, hlen, hf⟩ := DataW.trod_struct Tryz.underlying41 h
  rw [cellsTok] at hl
  match cs, hl with
  | [c0, c1, c2, c3], _ =>
  match xs, hlen with
  | [y0, y1, y2, y3], _ =>
  have g0 := hf 0 _ rfl
  have g1 := hf 1 _ rfl
  have g2 := hf 2 _ rfl
  have g3 := hf 3 _ rfl
  simp [cellsI, cellsS] at g0 g1 g2 g3
  obtain ⟨k, e0, f0, _⟩ := DataW.trod_int Tryz.underlying3 g0
  obtain ⟨m, e1, f1, _⟩ := DataW.trod_int Tryz.underlying3 g1
  obtain ⟨s, e2, f2, _⟩ := DataW.trod_string Tryz.underlying9 g2
  obtain ⟨a, e3, f3, _⟩ := DataW.trod_int Tryz.underlying3 g3
  simp only [List.cons.injEq, and_true] at e0 e1 e2 e3
  subst e0 e1 e2 e3
  refine ⟨⟨k, m, s, a⟩, rfl, ?_⟩
  rw [hx, f2]
  simp [DataW.weights, DataW.weightsEach, Tryz.underlying41, f0, f1, f3]

theorem bytesTok : 1 ≤ Tryz.prog.bytesOf 41 := by
  rw [show Tryz.prog.bytesOf 41 = 40 from by kernel_rfl]; decide

set_option maxRecDepth 100000 in
/-- A list of tokens, read. -/
theorem open_toks {H : Type} {enc : TypeId × Value → H} {W : World} {a0 : Option Addr} {len cap : Nat} {d : DataW H} {p : List MemPlace}
    (h : DataW.Trod enc Tryz.prog W 0 (fun _ => true) true 23 (.slice a0 len cap) d p) :
    ∃ L : List RT, L.length = len ∧ TlAt W a0 L ∧ ((∀ n ∈ d.weights Tryz.prog 23, n ≤ reachBytes) → (∀ x ∈ L, x.s.size ≤ reachBytes) ∧ len ≤ reachBytes ∧ len * 40 ≤ reachBytes) := by
  obtain ⟨fuel, hf⟩ := h
  rcases open_slice Tryz.underlying23 hf with ⟨hcs, hx⟩ | ⟨a, len', cap', m, n, D, Pl, hcs, _, hl, hm, hmm, hx, hel⟩
  · simp [Value.cells] at hcs
    obtain ⟨rfl, rfl, rfl⟩ := hcs
    exact ⟨[], rfl, fun i hi => by simp at hi, fun _ => ⟨by simp, by decide, by decide⟩⟩
  · simp [Value.cells] at hcs
    obtain ⟨rfl, rfl, rfl⟩ := hcs
    simp only [Prod.mk.injEq] at hx
    obtain ⟨rfl, _⟩ := hx
    simp only [if_true] at hmm
    subst hmm
    obtain ⟨b, off, spot⟩ := a
    have hsp : 0 < len → spot = none := fun h0 => by
      obtain ⟨cs', hc, ht⟩ := hel 0 (by omega)
      rw [cellsTok] at hc
      obtain ⟨y, rfl, _⟩ := open_tok ht
      obtain ⟨_, _, hcell⟩ := World.cells?_some hc
      have := hcell 0 (by decide)
      simpa [Addr.add] using World.cell?_spot this
    have each : ∀ i, i < len → ∃ y : RT, (W.cell? ⟨b, off + i * 4, none⟩ = some (.int .i64 y.k) ∧ W.cell? ⟨b, off + i * 4 + 1, none⟩ = some (.int .i64 y.n) ∧ W.cell? ⟨b, off + i * 4 + 2, none⟩ = some (.string y.s) ∧ W.cell? ⟨b, off + i * 4 + 3, none⟩ = some (.int .i64 y.a)) ∧ y.s.size ∈ (D i).weights Tryz.prog 41 := by
      intro i hi
      obtain ⟨cs', hc, ht⟩ := hel i (by omega)
      rw [cellsTok] at hc
      obtain ⟨y, rfl, hw⟩ := open_tok ht
      obtain ⟨_, _, hcell⟩ := World.cells?_some hc
      obtain rfl := hsp (by omega)
      rw [add_plain] at hcell
      have e0 := hcell 0 (by decide)
      have e1 := hcell 1 (by decide)
      have e2 := hcell 2 (by decide)
      have e3 := hcell 3 (by decide)
      rw [add_plain] at e0 e1 e2 e3
      exact ⟨y, ⟨by simpa using e0, by simpa using e1, by simpa using e2, by simpa using e3⟩, hw⟩
    obtain ⟨q, hq⟩ := choose_lt each
    refine ⟨(List.range len).map q, by simp, fun i hi => ?_, fun hwt => ⟨fun x hx => ?_, ?_, ?_⟩⟩
    · have hi' : i < len := by simpa using hi
      obtain ⟨⟨e0, e1, e2, e3⟩, _⟩ := hq i hi'
      have hb : b < W.heap.size := World.block_lt_of_cell? W ⟨b, off + i * 4, none⟩ (by rw [e0])
      obtain rfl := hsp (by omega)
      have hg : ((List.range len).map q)[i] = q i := by simp
      rw [hg]
      exact ⟨b, off, rfl, hb, e0, e1, e2, e3⟩
    · obtain ⟨i, hi, rfl⟩ := List.mem_map.1 hx
      have hi' : i < len := by simpa using hi
      refine hwt _ ?_
      simp only [DataW.weights, Tryz.underlying23]
      refine List.mem_cons_of_mem _ (List.mem_append_left _ (mem_weightsAll (List.mem_map.2 ⟨i, hi, rfl⟩) (hq i hi').2))
    · have := hwt _ (by simp only [DataW.weights, Tryz.underlying23]; exact List.mem_cons_self)
      rw [List.length_map, List.length_range] at this
      have hb := bytesTok
      exact Nat.le_trans (Nat.le_trans (Nat.le_add_right _ _) (Nat.le_mul_of_pos_right _ hb)) this
    · have := hwt _ (by simp only [DataW.weights, Tryz.underlying23]; exact List.mem_cons_self)
      rw [List.length_map, List.length_range, show Tryz.prog.bytesOf 41 = 40 from by kernel_rfl] at this
      exact Nat.le_trans (Nat.mul_le_mul_right 40 (Nat.le_add_right _ _)) this
end Go.Proofs.YtdchnjijdkgfhaaGreatDoor

namespace Go.Proofs.YtdchnjijdkgfhaaGreatDoor
open Go.RowKit

theorem chk_is (x : RT) (hs : x.s.size ≤ 140737488355328) (w : World) (hg : Gl w) {c : Int} (hc : Hid ((if x.valid then (0 : Int) else 10) = c)) :
    Calls Tryz.prog 14 #[x.v] w fun e w' => e = .returned (.int .i64 c) ∧ Old w w' := by
  rw [← hc.out]
  exact check_any x hs w hg (Lib.hid rfl)
theorem chkR_is (x : RT) (hs : x.s.size ≤ 140737488355328) (w : World) {c : Int} (hc : Hid ((if x.valid then (0 : Int) else 10) = c)) :
    Calls Tryz.prog 15 #[x.v] w fun e w' => e = .returned (.int .i64 c) ∧ Old w w' := by
  rw [← hc.out]
  exact checkR_any x hs w

def CkS (w0 : World) (g o : Nat) (x : RT) (w' : World) : Prop := w'.cell? ⟨g, o, none⟩ = some (.int .i64 x.k) ∧ w'.cell? ⟨g, o + 1, none⟩ = some (.int .i64 x.n) ∧ w'.cell? ⟨g, o + 2, none⟩ = some (.string x.s) ∧ w'.cell? ⟨g, o + 3, none⟩ = some (.int .i64 x.a) ∧ Gl w' ∧ Old w0 w'
theorem ck_keep {w0 w w' : World} {g o : Nat} {x : RT} (h : w.cell? ⟨g, o, none⟩ = some (.int .i64 x.k) ∧ w.cell? ⟨g, o + 1, none⟩ = some (.int .i64 x.n) ∧ w.cell? ⟨g, o + 2, none⟩ = some (.string x.s) ∧ w.cell? ⟨g, o + 3, none⟩ = some (.int .i64 x.a) ∧ Gl w ∧ Old w0 w) (hf : Old w w') :
    w'.cell? ⟨g, o, none⟩ = some (.int .i64 x.k) ∧ w'.cell? ⟨g, o + 1, none⟩ = some (.int .i64 x.n) ∧ w'.cell? ⟨g, o + 2, none⟩ = some (.string x.s) ∧ w'.cell? ⟨g, o + 3, none⟩ = some (.int .i64 x.a) ∧ Gl w' ∧ Old w0 w' := by
  obtain ⟨h0, h1, h2, h3, h4, h5⟩ := h
  have hg : g < w.heap.size := World.block_lt_of_cell? w ⟨g, o, none⟩ (by rw [h0])
  have he : w'.heap[g]? = w.heap[g]? := hf.block g hg (fun e => e)
  exact ⟨(World.cell?_of_block he).trans h0, (World.cell?_of_block he).trans h1, (World.cell?_of_block he).trans h2, (World.cell?_of_block he).trans h3, h4.old hf, h5.trans hf⟩
theorem ck_gl {w0 w : World} {g o : Nat} {x : RT} (h : w.cell? ⟨g, o, none⟩ = some (.int .i64 x.k) ∧ w.cell? ⟨g, o + 1, none⟩ = some (.int .i64 x.n) ∧ w.cell? ⟨g, o + 2, none⟩ = some (.string x.s) ∧ w.cell? ⟨g, o + 3, none⟩ = some (.int .i64 x.a) ∧ Gl w ∧ Old w0 w) : Gl w := h.2.2.2.2.1

set_option maxRecDepth 100000 in
set_option maxHeartbeats 4000000 in
theorem lexChecks_any (L M : List RT) (la ma : Option Addr) (lc mc : Nat) (w : World) (hg : Gl w) (hL : TlAt w la L) (hM : TlAt w ma M) (hn : L.length ≤ 3518437208883) (hm : M.length ≤ 3518437208883) (hs : ∀ x ∈ L, x.s.size ≤ 140737488355328) :
    Calls Tryz.prog 4 #[.slice la L.length lc, .slice ma M.length mc] w fun e w' => e = .returned (.bool true) ∧ Old w w' := by
  have HN := Lib.hid hn
  have HM := Lib.hid hm
  clear hn hm
  obtain ⟨J, hJ⟩ : ∃ J : ByteArray, ⟨(joinR L).toArray⟩ = J := ⟨_, rfl⟩
  obtain ⟨sm, hsm⟩ : ∃ b, sameR L M = b := ⟨_, rfl⟩
  have HJ := Lib.hid hJ
  have HSM := Lib.hid hsm
  clear hJ hsm
  go_enter Tryz.func4, Tryz.ntmps4
  go_wp2_with fail
  refine (sane_any w hg).mono ?_
  rintro e w1 ⟨rfl, hO1⟩
  go_wp2_with fail
  go_loopg [6] L.length (fun g x wr => ∃ i : Nat, g = L.length - i ∧ i ≤ L.length ∧ x = .int .i64 i ∧ Old w wr)
  case atStart => exact ⟨0, rfl, Nat.zero_le _, rfl, hO1⟩
  case round =>
    obtain ⟨i, hgk, hi, rfl, hO⟩ := hrel
    have HG := Lib.hid hgk
    clear hgk
    by_cases hgo : i < L.length ∧ i < 500
    · obtain ⟨hlt, h5⟩ := hgo
      have hd : decide ((i : Int) < (L.length : Int)) = true := decide_eq_true (Int.ofNat_lt.2 hlt)
      have hli : (i : Int) < (L.length : Int) := Int.ofNat_lt.2 hlt
      have hd5 : decide ((i : Int) < 500) = true := by simp only [decide_eq_true_eq]; omega
      obtain ⟨g, o, rfl, hgl, x0, x1, x2, x3⟩ := (hL.old hO) i hlt
      obtain ⟨x, hx⟩ : ∃ x, L[i] = x := ⟨_, rfl⟩
      have hmem : x ∈ L := hx ▸ List.getElem_mem hlt
      have hsz := Lib.hid (hs x hmem)
      rw [hx] at x0 x1 x2 x3
      have HI := Lib.hid hlt
      have hwr' : Hid (wrap64 ((i : Int) + 1) = ((i + 1 : Nat) : Int)) := Lib.hid (by rw [IntWalk.wrap64_in _ (by omega)]; omega)
      obtain ⟨c, hc⟩ : ∃ c : Int, (if x.valid then (0 : Int) else 10) = c := ⟨_, rfl⟩
      have HC := Lib.hid hc
      have hS0 : wr.cell? ⟨g, o + i * 4, none⟩ = some (.int .i64 x.k) ∧ wr.cell? ⟨g, o + i * 4 + 1, none⟩ = some (.int .i64 x.n) ∧ wr.cell? ⟨g, o + i * 4 + 2, none⟩ = some (.string x.s) ∧ wr.cell? ⟨g, o + i * 4 + 3, none⟩ = some (.int .i64 x.a) ∧ Gl wr ∧ Old w wr := ⟨x0, x1, x2, x3, hg.old hO, hO⟩
      clear hx hmem hc hi h5 x0 x1 x2 x3
      go_wp2_with fail
      go_region_held3 (fun w' => w'.cell? ⟨g, o + i * 4, none⟩ = some (.int .i64 x.k) ∧ w'.cell? ⟨g, o + i * 4 + 1, none⟩ = some (.int .i64 x.n) ∧ w'.cell? ⟨g, o + i * 4 + 2, none⟩ = some (.string x.s) ∧ w'.cell? ⟨g, o + i * 4 + 3, none⟩ = some (.int .i64 x.a) ∧ Gl w' ∧ Old w w')
        (first | exact hS0 | exact ck_keep hS0 (Old.refl _).drew | exact ck_keep (by assumption) hO7 | exact ck_keep (by assumption) hO6)
        (first
          | (go_at_call 14; refine (chk_is x hsz.out _ (ck_gl (by assumption)) HC).mono ?_; rintro e w6 ⟨rfl, hO6⟩)
          | (go_at_call 15; refine (chkR_is x hsz.out _ HC).mono ?_; rintro e w7 ⟨rfl, hO7⟩))
      all_goals
        rename_i hHeld
        obtain ⟨y0, y1, y2, y3, -, hOf⟩ := hHeld
        clear hS0
        go_wp2
        go_roundg (L.length - (i + 1))
        case measure => exact meas_lt HI.out HG.out
        case rel => exact ⟨i + 1, rfl, HI.out, by first | rfl | rw [hwr'.out], hOf⟩
    · have hG : (decide ((i : Int) < (L.length : Int)) = false ∧ decide (i < L.length) = false) ∨ (decide ((i : Int) < (L.length : Int)) = true ∧ decide (i < L.length) = true ∧ decide ((i : Int) < 500) = false) := by
        by_cases h1 : i < L.length
        · exact .inr ⟨decide_eq_true (Int.ofNat_lt.2 h1), decide_eq_true h1, by simp only [decide_eq_false_iff_not]; omega⟩
        · exact .inl ⟨decide_eq_false (fun e => h1 (Int.ofNat_lt.1 e)), decide_eq_false h1⟩
      have hLr := hL.old hO
      have hMr := hM.old hO
      have hgr := hg.old hO
      clear hgo hi
      rcases hG with ⟨hd, hdn⟩ | ⟨hd, hdn, hd5⟩
      all_goals
        go_wp2_with fail
        (with_reducible refine (join_wide L la lc wr hgr hLr HN.out hs (fun x _ hv => valid_short hv)).mono ?_)
        rw [HJ.out]
        rintro e w2 ⟨rfl, P2⟩
        have O2 := hO.trans P2
        go_wp2_with fail
        (with_reducible refine (joinRR_any L la lc w2 (hLr.old P2) HN.out hs).mono ?_)
        rw [HJ.out]
        rintro e w3 ⟨rfl, P3⟩
        have O3 := O2.trans P3
        have Q3 := P2.trans P3
        clear O2 P2 P3
        go_wp2_with fail
        (with_reducible refine (same_any L M la ma lc mc w3 (hLr.old Q3) (hMr.old Q3) (Nat.le_trans HN.out (by decide)) (Nat.le_trans HM.out (by decide))).mono ?_)
        rw [HSM.out]
        rintro e w4 ⟨rfl, P4⟩
        have O4 := O3.trans P4
        have Q4 := Q3.trans P4
        clear O3 Q3 P4
        go_wp2_with fail
        (with_reducible refine (sameRR_any L M la ma lc mc w4 (hLr.old Q4) (hMr.old Q4) (Nat.le_trans HN.out (by decide)) (Nat.le_trans HM.out (by decide))).mono ?_)
        rw [HSM.out]
        rintro e w5 ⟨rfl, P5⟩
        have O5 := O4.trans P5
        clear O4 Q4 P5
        go_wp2
        go_ret
        exact ⟨rfl, O5⟩
end Go.Proofs.YtdchnjijdkgfhaaGreatDoor

namespace Go.Proofs.YtdchnjijdkgfhaaGreatDoor
open Go.ChangeShapes Go.WideShapes Go.ChangeAt Go.WideMaps Go.WideElems Go.RowKit Go.Deep

set_option maxRecDepth 100000 in
theorem lexChecks_lifted (os : Os) (started : os.Started) (H : Type) (enc : TypeId × Value → H) :
    ReturnsInHanded {} Tryz.checked os 4 .any (fun w args => (Rows.lexChecksSpec.pre enc Tryz.prog Tryz.f4 [] false w args ∧ laidMetH Tryz.prog laid5 w) ∧ sizedMet enc Tryz.prog Tryz.f4 (OpenSpec.ofChange Rows.lexChecksSpec) false w args)
      (Rows.lexChecksSpec.post enc Tryz.prog Tryz.f4 false true false false) := by
  refine returnsInHanded_of_change_and (C := Tryz.checked) (X := fun w _ => laidMetH Tryz.prog laid5 w) (fun _ _ _ hh h => h.of_heap hh) own started (by kernel_rfl) Tryz.func4
    (ChangeSpec.witness_shaped (enc := enc) (C := Tryz.checked) (os := os) (X := fun w _ => laidMetH Tryz.prog laid5 w) false (World.doorLaid Tryz.prog 400 os) #[.slice none 0 0, .slice none 0 0] 8 rfl (World.shaped_of_RefB (by kernel_rfl) (by kernel_rfl)) (by kernel_rfl) (by kernel_rfl) (by kernel_rfl) (door_met os _)) ?_
  intro W base args ds gs before hval0 hW _ hWt hL _
  have hval : ∀ (j : Nat) t v, Tryz.f4.params[j]? = some t → args[j]? = some v → Value.okWide Tryz.prog W .any base t v := hval0
  have hW' := hW
  obtain ⟨p, q, hA0, hV, rfl, hfz, hnd⟩ := hW
  have hA : DataW.TrodAll enc Tryz.prog W 0 (fun _ => true) true Tryz.f4.params.toList args.toList ds p := hA0
  rw [Tryz.params4] at hA hval hWt
  obtain ⟨v0, v1, d0, d1, p0, p1, rfl, rfl, rfl, h0, h1⟩ := trodAll_two hA
  obtain ⟨rfl, rfl⟩ := trodVars_none hV
  obtain ⟨a0, len, cap, rfl⟩ := okWide_slice Tryz.underlying23 (hval 0 23 v0 rfl rfl)
  obtain ⟨a1, len1, cap1, rfl⟩ := okWide_slice Tryz.underlying23 (hval 1 23 v1 rfl rfl)
  have h0k := h0
  have h1k := h1
  obtain ⟨L, rfl, hT, hb⟩ := open_toks h0
  obtain ⟨M, rfl, hT1, hb1⟩ := open_toks h1
  have hwt : ∀ n ∈ d0.weights Tryz.prog 23, n ≤ reachBytes := fun n hn => of_decide_eq_true (List.all_eq_true.1 hWt n (by
    simp only [List.append_nil]
    show n ∈ DataW.weightsEach Tryz.prog ([23, 23] ++ _) [d0, d1]
    simp [DataW.weightsEach, hn]))
  have hwt1 : ∀ n ∈ d1.weights Tryz.prog 23, n ≤ reachBytes := fun n hn => of_decide_eq_true (List.all_eq_true.1 hWt n (by
    simp only [List.append_nil]
    show n ∈ DataW.weightsEach Tryz.prog ([23, 23] ++ _) [d0, d1]
    simp [DataW.weightsEach, hn]))
  obtain ⟨hbs, _, hbl⟩ := hb hwt
  obtain ⟨_, _, hbl1⟩ := hb1 hwt1
  have hr : reachBytes ≤ 140737488355328 := by decide
  have hG : Gl W := of_laid hL
  clear hA0 hval0
  simp only [List.append_nil] at hW'
  have hlt : ∀ x ∈ p0 ++ p1, x.block < W.heap.size := fun x hx => by simpa using hW'.lt x hx
  refine (lexChecks_any L M a0 a1 cap cap1 W hG hT hT1 (by omega) (by omega) (fun x hx => Nat.le_trans (hbs x hx) hr)).mono fun e W' ⟨he, hO⟩ => ?_
  subst he
  have bel : Below W.heap.size W W' := Fr.below hO (Nat.le_refl _) (fun k e => e.elim)
  refine ⟨_, rfl, _, _, _, [], p0 ++ p1, [], hW', ?_, ?_, ?_, bel.frame _, fun h => by cases h⟩
  · exact trodAll_mk1 (shut_bool Tryz.underlying4 _)
  · exact trodAll_mk2 (Below.trod laidOut (by kernel_rfl) (of_decide_eq_true (by kernel_rfl)) h0k bel (fun x hx => hlt x (List.mem_append_left _ hx))) (Below.trod laidOut (by kernel_rfl) (of_decide_eq_true (by kernel_rfl)) h1k bel (fun x hx => hlt x (List.mem_append_right _ hx)))
  · rfl

theorem lexChecks_holds : Rows.LexChecksSaid :=
  OpenClaim.holds_of_wide 4 Tryz.f4 rfl rfl rfl rfl rfl rfl rfl ⟨rfl, rfl, rfl, rfl, rfl⟩ rfl rfl rfl rfl rfl (by kernel_rfl) Tryz.func4 (by kernel_rfl)
    (of_decide_eq_true (by kernel_rfl)) (by unfold Func.isWrapper; first | (rw [if_pos (by decide +kernel)]; kernel_rfl) | (rw [if_neg (by decide +kernel)]; exact ⟨rfl, rfl⟩))
    (fun os started H enc _ => lexChecks_lifted os started H enc)

theorem lexChecks_card : Rows.LexChecksCardSaid :=
  Claim7.holds_tied_plain_at .later [] [.data, .data, .data, .sentinel, .sentinel] true (true, "b0b710d89615814b765ca1819ab5255a3b926f2071bf1a311920efbbf6b4d4f1") true
    lexChecks_holds (fun _ h => by cases h) (by kernel_rfl) (fun _ h => by cases h) lexChecks_row_tie rfl ⟨rfl, rfl⟩ (by kernel_rfl) rfl
    (fun f fn hf hfn => by
      obtain rfl : f = 4 := Option.some.inj ((show Tryz.prog.funcNamed "restitch/restitchlaw01.LexChecks" = some 4 by kernel_rfl).symm.trans hf) |>.symm
      obtain rfl : fn = Tryz.f4 := (Option.some.inj (Tryz.func4.symm.trans hfn)).symm
      exact ⟨by kernel_rfl, fun j t ht => by
        rw [Tryz.params4] at ht
        have hm : t ∈ [23, 23] := by simpa using Array.mem_of_getElem? ht
        have hall : ([23, 23].all fun u => !Tryz.prog.wantsStandIn u) = true := by kernel_rfl
        exact (show Tryz.prog.wantsStandIn t = false by simpa using List.all_eq_true.1 hall t hm)⟩)
    (by kernel_rfl)
end Go.Proofs.YtdchnjijdkgfhaaGreatDoor
