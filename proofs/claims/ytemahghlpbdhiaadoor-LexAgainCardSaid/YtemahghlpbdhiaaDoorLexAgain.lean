/- LexAgain, walked. -/
import Derived.Test.YtemahghlpbdhiaaDoorSamePure
import Derived.Test.YtemahghlpbdhiaaDoorLexPrefix
import Derived.Deep.RegionHeld3
import Derived.Deep.RegionWith
namespace Lx
theorem jn_sum : ∀ (L : List (List B)), (jn L).length ≤ (L.map fun x => x.length + 1).sum
  | [] => by simp [jn]
  | [x] => by simp [jn]
  | x :: y :: r => by
    have := jn_sum (y :: r)
    have e : (jn (x :: y :: r)).length = x.length + ((jn (y :: r)).length + 1) := by
      show (x ++ 32 :: jn (y :: r)).length = _
      rw [List.length_append, List.length_cons]
    rw [e, List.map_cons, List.sum_cons]
    omega
def Tok.tk (t : Tok) : Tk0 := ⟨t.kind, t.num, t.text⟩
end Lx
namespace Go.Proofs.YtemahghlpbdhiaaDoor
open Go.RowKit

theorem bytes_back (x : RT) : (⟨x.bytes.toArray⟩ : ByteArray) = x.s := by
  apply ByteArray.ext
  show x.s.data.toList.toArray = x.s.data
  rw [Array.toArray_toList]
theorem scanned_valid {l : List UInt8} {p : Nat} {ts : List Lx.Tok} {cs : List (Nat × Nat)} (h : Lx.scan l p = .ok ts cs) : ∀ x ∈ ts.map rt, x.valid = true := by
  intro x hx
  obtain ⟨t, ht, rfl⟩ := List.mem_map.1 hx
  refine RT.valid_of ?_ (by simp [rt])
  exact (Lx.scan_toks _ _ _ _ _ (Nat.le_refl _) h t ht).2.2.2
theorem scanned_bytes {l : List UInt8} {p : Nat} {ts : List Lx.Tok} {cs : List (Nat × Nat)} (h : Lx.scan l p = .ok ts cs) : (joinR (ts.map rt)).length ≤ 2 * l.length := by
  rw [joined (scanned_valid h)]
  have h1 := Lx.jn_sum (((ts.map rt).map RT.tk).map Lx.Tk0.text)
  have h2 := Lx.scan_room _ _ _ _ _ (Nat.le_refl _) h
  refine Nat.le_trans h1 (Nat.le_trans (Nat.le_of_eq ?_) h2)
  rw [List.map_map, List.map_map, List.map_map]
  rfl

theorem ag_keep {w w' v : World} {a b c d : Addr} {p q r s : Value} (h : w.cell? a = some p ∧ w.cell? b = some q ∧ w.cell? c = some r ∧ w.cell? d = some s ∧ Gl w ∧ Old v w) (hO : Old w w') :
    w'.cell? a = some p ∧ w'.cell? b = some q ∧ w'.cell? c = some r ∧ w'.cell? d = some s ∧ Gl w' ∧ Old v w' := by
  have one : ∀ {a : Addr} {p : Value}, w.cell? a = some p → w'.cell? a = some p := fun {a p} ha => by
    have hlt : a.block < w.heap.size := World.block_lt_of_cell? w a (by rw [ha])
    exact (World.cell?_of_block (hO.block a.block hlt (fun e => e))).trans ha
  exact ⟨one h.1, one h.2.1, one h.2.2.1, one h.2.2.2.1, h.2.2.2.2.1.old hO, h.2.2.2.2.2.trans hO⟩
theorem ag_gl {w : World} {A B C D E : Prop} (h : A ∧ B ∧ C ∧ D ∧ Gl w ∧ E) : Gl w := h.2.2.2.2.1
set_option maxRecDepth 100000 in
set_option maxHeartbeats 4000000 in
theorem lexAgain_any (t : ByteArray) (w : World) (hg : Gl w) :
    Calls Tryd.prog 6 #[.string t] w fun e w' => e = .returned (.bool true) ∧ Old w w' := by
  by_cases hbig : 5000 < t.size
  · have hd : decide ((5000 : Int) < (t.size : Int)) = true := by simp only [decide_eq_true_eq]; omega
    go_enter Tryd.func6, Tryd.ntmps6
    go_wp2_with fail
    refine (sane_any w hg).mono ?_
    rintro e w1 ⟨rfl, hO⟩
    clear hbig
    go_wp2
    go_ret
    exact ⟨rfl, hO⟩
  · have hd : decide ((5000 : Int) < (t.size : Int)) = false := by simp only [decide_eq_false_iff_not]; omega
    have hsz := Lib.hid (show t.size ≤ 5000 by omega)
    cases hr : Lx.upto t.data.toList 20000 with
    | err a x =>
      have hs : Lx.scan t.data.toList 0 = .err a x := by rw [← upto_small t (by omega)]; exact hr
      have hx0 : (x != 0) = true := by simpa using code_ne hs
      have HR := Lib.hid hr
      clear hr hbig hs
      go_enter Tryd.func6, Tryd.ntmps6
      go_wp2_with fail
      refine (sane_any w hg).mono ?_
      rintro e w1 ⟨rfl, hO⟩
      go_wp2_with fail
      refine (scan_fails t (by have := hsz.out; omega) w1 (hg.old hO) HR.out).mono ?_
      rintro e w2 ⟨la, lc, rfl, hO2⟩
      have hO' := hO.trans hO2
      clear hO hO2
      go_wp2
      go_ret
      exact ⟨rfl, hO'⟩
    | ok ts C =>
      have hs : Lx.scan t.data.toList 0 = .ok ts C := by rw [← upto_small t (by omega)]; exact hr
      have hv := scanned_valid hs
      have hlenb := scanned_bytes hs
      rw [size_list] at hlenb
      obtain ⟨L, hL⟩ : ∃ L, ts.map rt = L := ⟨_, rfl⟩
      have hLl : ts.length = L.length := by rw [← hL, List.length_map]
      have hcount : L.length ≤ 10000 := by
        have := Lx.scan_room _ _ _ _ _ (Nat.le_refl _) hs
        rw [size_list] at this
        have h2 : ∀ (l : List Lx.Tok), l.length ≤ (l.map fun t => t.text.length + 1).sum := by
          intro l
          induction l with
          | nil => exact Nat.le_refl _
          | cons a r ih => simp only [List.length_cons, List.map_cons, List.sum_cons]; omega
        have := h2 ts
        omega
      rw [hL] at hv hlenb
      have hbs : (⟨(joinR L).toArray⟩ : ByteArray).size ≤ 10000 := by
        show (joinR L).toArray.size ≤ _
        rw [List.size_toArray]; omega
      have hsc : Lx.upto (⟨(joinR L).toArray⟩ : ByteArray).data.toList 20000 = .ok (Lx.place 0 (L.map RT.tk)) [] := by
        show Lx.upto (joinR L).toArray.toList 20000 = _
        rw [List.toList_toArray]
        unfold Lx.upto
        rw [if_neg (by omega)]
        exact joined_scan hv 0
      have hpl : (Lx.place 0 (L.map RT.tk)).length = L.length := by rw [Lx.place_length, List.length_map]
      have hpm : ((Lx.place 0 (L.map RT.tk)).map rt).length = L.length := by rw [List.length_map]; exact hpl
      have hjr : joinR L = Lx.jn ((L.map RT.tk).map Lx.Tk0.text) := joined hv
      have HR := Lib.hid hr
      have HS := Lib.hid hsc
      have HB := Lib.hid hbs
      have HV := Lib.hid hv
      have HPL := Lib.hid hpl
      have HPM := Lib.hid hpm
      have HC := Lib.hid hcount
      have HL := Lib.hid hL
      have HLL := Lib.hid hLl
      have HJ := Lib.hid hjr
      clear hr hsc hbs hv hpl hpm hlenb hs hbig hcount hL hLl hjr
      go_enter Tryd.func6, Tryd.ntmps6
      go_wp2_with fail
      refine (sane_any w hg).mono ?_
      rintro e w1 ⟨rfl, hO⟩
      go_wp2_with fail
      refine (scan_gives t (by have := hsz.out; omega) w1 (hg.old hO) HR.out).mono ?_
      rintro e w2 ⟨la, lc, rfl, hT, hO2⟩
      rw [HLL.out]
      rw [HL.out] at hT
      have hO' := hO.trans hO2
      clear hO hO2
      go_wp2_with fail
      refine (join_any L la lc w2 (hg.old hO') hT (by have := HC.out; omega) (fun x hx => by have := valid_short (HV.out x hx); omega) (fun x hx hxv => by have := valid_short hxv; omega)).mono ?_
      rintro e w3 ⟨rfl, hO3⟩
      have hO3' := hO'.trans hO3
      have hT3 := hT.old hO3
      clear hO' hO3 hT
      go_wp2_with fail
      refine (scan_gives _ (by have := HB.out; omega) w3 (hg.old hO3') HS.out).mono ?_
      rintro e w4 ⟨aa, ac, rfl, hT4, hO4⟩
      rw [HPL.out]
      have hO4' := hO3'.trans hO4
      have hT34 := hT3.old hO4
      clear hO3' hO4 hT3
      have hsm := same_any ((Lx.place 0 (L.map RT.tk)).map rt) L aa la ac lc w4 hT4 hT34 (by rw [HPM.out]; have := HC.out; omega) (by have := HC.out; omega)
      rw [HPM.out, placed_same] at hsm
      have HSM := Lib.hid hsm
      clear hsm
      go_wp2_with fail
      refine HSM.out.mono ?_
      rintro e w5 ⟨rfl, hO5⟩
      have hO5' := hO4'.trans hO5
      have hT5 := hT4.old hO5
      clear hO4' hO5 hT4 hT34
      go_wp2_with fail
      go_loopg [11, 12] L.length (fun g x y wr => ∃ i : Nat, g = L.length - i ∧ i ≤ L.length ∧ y = .int .i64 i ∧ x = .int .i64 (Lx.upAt (L.map RT.tk) i) ∧ Old w5 wr)
      case atStart => exact ⟨0, rfl, Nat.zero_le _, rfl, rfl, Old.refl _⟩
      case round =>
        obtain ⟨i, hgk, hi, rfl, rfl, hOr⟩ := hrel
        have HG := Lib.hid hgk
        clear hgk
        by_cases hlt : i < L.length
        · have hdl : decide ((i : Int) < (L.length : Int)) = true := by simp only [decide_eq_true_eq]; omega
          have hip : i < ((Lx.place 0 (L.map RT.tk)).map rt).length := by rw [HPM.out]; exact hlt
          obtain ⟨g, o, haa, hgl, x0, x1, x2, x3⟩ := (hT5.old hOr) i hip
          rw [placed_at 0 hlt hip] at x0 x1 x2 x3
          simp only [Nat.zero_add] at x0 x1 x2 x3
          obtain ⟨x, hx⟩ : ∃ x, L[i] = x := ⟨_, rfl⟩
          have hmem : x ∈ L := hx ▸ List.getElem_mem hlt
          rw [hx, bytes_back] at x2
          rw [hx] at x0 x1
          obtain ⟨u, hu⟩ : ∃ u, Lx.upAt (L.map RT.tk) i = u := ⟨_, rfl⟩
          rw [hu] at x3 ⊢
          have hok := (RT.ok_of (HV.out x hmem)).1
          have hk := Lx.next_kind hok
          have hkind : Lx.kind x.s.data.toList = x.k := by
            unfold Lx.kind
            rw [show Lx.whole x.s.data.toList = some (x.k, x.n) from Lx.whole_iff.2 hok]
          have hun : Lx.upAt (L.map RT.tk) (i + 1) = u + x.s.size + 1 := by
            rw [Lx.upAt, hu, List.getElem?_map, List.getElem?_eq_getElem hlt, hx]
            simp [RT.tk, RT.bytes]
          have hub : u ≤ 10000 * 25 := by
            have : ∀ k, k ≤ L.length → Lx.upAt (L.map RT.tk) k ≤ k * 25 := by
              intro k
              induction k with
              | zero => intro _; simp [Lx.upAt]
              | succ k ih =>
                intro hk
                have h1 := ih (by omega)
                rw [Lx.upAt, List.getElem?_map, List.getElem?_eq_getElem (show k < L.length by omega)]
                have h2 := valid_short (HV.out L[k] (List.getElem_mem _))
                simp only [Option.map_some]
                have h3 : (RT.tk L[k]).text.length = L[k].s.size := by simp [RT.tk, RT.bytes]
                rw [h3]
                omega
            have := this i (by omega)
            have := HC.out
            omega
          have hxs := valid_short (HV.out x hmem)
          obtain ⟨hw1, hw2, hwi⟩ : wrap64 ((u : Int) + (x.s.size : Int)) = (u : Int) + (x.s.size : Int) ∧ wrap64 ((u : Int) + (x.s.size : Int) + 1) = (u : Int) + (x.s.size : Int) + 1 ∧ wrap64 ((i : Int) + 1) = ((i + 1 : Nat) : Int) := by
            have := HC.out
            refine ⟨IntWalk.wrap64_in _ (by omega), IntWalk.wrap64_in _ (by omega), ?_⟩
            rw [IntWalk.wrap64_in _ (by omega)]
            omega
          have HW := Lib.hid (And.intro hw1 (And.intro hw2 hwi))
          clear hw1 hw2 hwi
          have HI := Lib.hid hlt
          have HK := Lib.hid hkind
          have HUN := Lib.hid hun
          have hat : Value.int .i64 (wrap64 (wrap64 ((u : Int) + (x.s.size : Int)) + 1)) = Value.int .i64 ((Lx.upAt (L.map RT.tk) (i + 1) : Nat) : Int) := by
            rw [hun, IntWalk.wrap64_in ((u : Int) + (x.s.size : Int)) (by omega), IntWalk.wrap64_in _ (by omega)]
            congr 1
          have HAT := Lib.hid hat
          clear hat
          have HXS := Lib.hid hxs
          have hOO := hO5'.trans hOr
          have hTr := hT5.old hOr
          subst haa
          have hS0 : wr.cell? ⟨g, o + i * 4, none⟩ = some (.int .i64 x.k) ∧ wr.cell? ⟨g, o + i * 4 + 1, none⟩ = some (.int .i64 x.n) ∧ wr.cell? ⟨g, o + i * 4 + 2, none⟩ = some (.string x.s) ∧ wr.cell? ⟨g, o + i * 4 + 3, none⟩ = some (.int .i64 u) ∧ Gl wr ∧ Old w5 wr := ⟨x0, x1, x2, x3, hg.old hOO, hOr⟩
          have hxsz : x.s.size ≤ 140737488355328 := by omega
          have HXZ := Lib.hid hxsz
          by_cases hk1 : x.k = 1
          · have hnum := hk.2.2.1 hk1
            rw [List.take_length] at hnum
            obtain ⟨⟨f1, f2⟩, hdig⟩ := Lx.number_is hnum
            have hdb : (⟨(Lx.digits x.n).toArray⟩ : ByteArray) = x.s := by rw [show Lx.digits x.n = x.bytes from hdig]; exact bytes_back x
            have HD := Lib.hid hdb
            have hk1' : (x.k == 1) = true := by simpa using hk1
            clear hx hmem hok hk hkind hun hub hxs hi hip hnum hdig hdb hu hk1 x0 x1 x2 x3 hOO hTr hxsz
            go_wp2_with fail
            go_region_held3 (fun w' => w'.cell? ⟨g, o + i * 4, none⟩ = some (.int .i64 x.k) ∧ w'.cell? ⟨g, o + i * 4 + 1, none⟩ = some (.int .i64 x.n) ∧ w'.cell? ⟨g, o + i * 4 + 2, none⟩ = some (.string x.s) ∧ w'.cell? ⟨g, o + i * 4 + 3, none⟩ = some (.int .i64 u) ∧ Gl w' ∧ Old w5 w')
              (first | exact hS0 | exact ag_keep hS0 (Old.refl _).drew | exact ag_keep (by assumption) hO7 | exact ag_keep (by assumption) hO6)
              (first
                | (go_at_call 14; refine (Digits_any x.n f1 f2 _ (ag_gl (by assumption))).mono ?_; rw [HD.out]; rintro e w6 ⟨rfl, hO6⟩)
                | (go_at_call 24; refine (kind_is x.s HXZ.out _ (ag_gl (by assumption)) HK).mono ?_; rintro e w7 ⟨rfl, hO7⟩))
            all_goals
              rename_i hHeld
              obtain ⟨y0, y1, y2, y3, -, hOf⟩ := hHeld
              clear hS0
              go_wp2
              go_roundg (L.length - (i + 1))
              case measure => have := HG.out; have := HI.out; omega
              case rel => exact ⟨i + 1, rfl, HI.out, by rw [HW.out.2.2], by first | exact HAT.out | (rw [HUN.out, HW.out.1, HW.out.2.1]; rfl), hOf⟩
          · have hk1' : (x.k == 1) = false := beq_eq_false_iff_ne.2 hk1
            have hk1'' : decide (x.k = 1) = false := decide_eq_false hk1
            have hSd := ag_keep hS0 ((Old.refl wr).drew)
            have hSd' := hSd
            obtain ⟨d0, d1, d2, d3, hgd, hOd⟩ := hSd'
            clear hx hmem hok hk hkind hun hub hxs hi hip hu hk1 x0 x1 x2 x3 hOO hTr hxsz hS0
            have HSD := Lib.hid hSd
            clear hSd
            go_wp2_with fail
            refine wp_region_held_drew (S := fun w' => w'.cell? ⟨g, o + i * 4, none⟩ = some (.int .i64 x.k) ∧ w'.cell? ⟨g, o + i * 4 + 1, none⟩ = some (.int .i64 x.n) ∧ w'.cell? ⟨g, o + i * 4 + 2, none⟩ = some (.string x.s) ∧ w'.cell? ⟨g, o + i * 4 + 3, none⟩ = some (.int .i64 u) ∧ Gl w' ∧ Old w5 w') (by kernel_rfl) HSD.out (fun hHeld => ?_)
            refine wpAnyH_take (i := 0) (v := ?_) rfl (by kernel_rfl) (by kernel_rfl) (by kernel_rfl) (fun _ _ _ h => h) (Or.inl ⟨by rfl, ?y0⟩) hHeld ?r0
            case y0 => (intro w' hSw; (try dsimp only at hSw); go_simp; try with_reducible rfl)
            case' r0 => try simp only [Act.put, List.getElem_toArray, List.getElem_cons_zero, List.getElem_cons_succ, List.setIfInBounds_toArray, List.set_cons_zero, List.set_cons_succ]
            refine wpAnyH_take (i := 1) (v := ?_) rfl (by kernel_rfl) (by kernel_rfl) (by kernel_rfl) (fun _ _ _ h => h) (Or.inl ⟨by rfl, ?y1⟩) hHeld ?r1
            case y1 => (intro w' hSw; (try dsimp only at hSw); go_simp; try with_reducible rfl)
            case' r1 => try simp only [Act.put, List.getElem_toArray, List.getElem_cons_zero, List.getElem_cons_succ, List.setIfInBounds_toArray, List.set_cons_zero, List.set_cons_succ]
            refine wpAnyH_take (i := 2) (v := ?_) rfl (by kernel_rfl) (by kernel_rfl) (by kernel_rfl) (fun _ _ _ h => h) (Or.inl ⟨by rfl, ?y2⟩) hHeld ?r2
            case y2 => (intro w' hSw; (try dsimp only at hSw); go_simp; try with_reducible rfl)
            case' r2 => try simp only [Act.put, List.getElem_toArray, List.getElem_cons_zero, List.getElem_cons_succ, List.setIfInBounds_toArray, List.set_cons_zero, List.set_cons_succ]
            refine wpAnyH_take (i := 3) (v := ?_) rfl (by kernel_rfl) (by kernel_rfl) (by kernel_rfl) (fun _ _ _ h => h) (Or.inl ⟨by rfl, ?y3⟩) hHeld ?r3
            case y3 => (intro w' hSw; (try dsimp only at hSw); go_simp; try with_reducible rfl)
            case' r3 => try simp only [Act.put, List.getElem_toArray, List.getElem_cons_zero, List.getElem_cons_succ, List.setIfInBounds_toArray, List.set_cons_zero, List.set_cons_succ]
            refine wpAnyH_take (i := 4) (v := ?_) rfl (by kernel_rfl) (by kernel_rfl) (by kernel_rfl) (fun _ _ _ h => h) (Or.inl ⟨by rfl, ?y4⟩) hHeld ?r4
            case y4 => (intro w' hSw; (try dsimp only at hSw); go_simp; try with_reducible rfl)
            case' r4 => try simp only [Act.put, List.getElem_toArray, List.getElem_cons_zero, List.getElem_cons_succ, List.setIfInBounds_toArray, List.set_cons_zero, List.set_cons_succ]
            refine wpAnyH_take (i := 5) (v := ?_) rfl (by kernel_rfl) (by kernel_rfl) (by kernel_rfl) (fun _ _ _ h => h) (Or.inl ⟨by rfl, ?y5⟩) hHeld ?r5
            case y5 => (intro w' hSw; (try dsimp only at hSw); go_simp; try with_reducible rfl)
            case' r5 => try simp only [Act.put, List.getElem_toArray, List.getElem_cons_zero, List.getElem_cons_succ, List.setIfInBounds_toArray, List.set_cons_zero, List.set_cons_succ]
            refine wpAnyH_take (i := 6) (v := ?_) rfl (by kernel_rfl) (by kernel_rfl) (by kernel_rfl) (fun _ _ _ h => h) (Or.inl ⟨by rfl, ?y6⟩) hHeld ?r6
            case y6 => (intro w' hSw; (try dsimp only at hSw); go_simp; try with_reducible rfl)
            case' r6 => try simp only [Act.put, List.getElem_toArray, List.getElem_cons_zero, List.getElem_cons_succ, List.setIfInBounds_toArray, List.set_cons_zero, List.set_cons_succ]
            refine wpAnyH_take (i := 7) (v := ?_) rfl (by kernel_rfl) (by kernel_rfl) (by kernel_rfl) (fun _ _ _ h => h) (Or.inl ⟨by rfl, ?y7⟩) hHeld ?r7
            case y7 => (intro w' hSw; (try dsimp only at hSw); go_simp; try with_reducible rfl)
            case' r7 => try simp only [Act.put, List.getElem_toArray, List.getElem_cons_zero, List.getElem_cons_succ, List.setIfInBounds_toArray, List.set_cons_zero, List.set_cons_succ]
            refine wpAnyH_take (i := 8) (v := ?_) rfl (by kernel_rfl) (by kernel_rfl) (by kernel_rfl) (fun _ _ _ h => h) (Or.inl ⟨by rfl, ?y8⟩) hHeld ?r8
            case y8 => (intro w' hSw; (try dsimp only at hSw); go_simp; try with_reducible rfl)
            case' r8 => try simp only [Act.put, List.getElem_toArray, List.getElem_cons_zero, List.getElem_cons_succ, List.setIfInBounds_toArray, List.set_cons_zero, List.set_cons_succ]
            refine wpAnyH_take (i := 9) (v := ?_) rfl (by kernel_rfl) (by kernel_rfl) (by kernel_rfl) (fun _ _ _ h => h) (Or.inl ⟨by rfl, ?y9⟩) hHeld ?r9
            case y9 => (intro w' hSw; (try dsimp only at hSw); go_simp; try with_reducible rfl)
            case' r9 => try simp only [Act.put, List.getElem_toArray, List.getElem_cons_zero, List.getElem_cons_succ, List.setIfInBounds_toArray, List.set_cons_zero, List.set_cons_succ]
            refine wpAnyH_take (i := 10) (v := ?_) rfl (by kernel_rfl) (by kernel_rfl) (by kernel_rfl) (fun _ _ _ h => h) (Or.inl ⟨by rfl, ?y10⟩) hHeld ?r10
            case y10 => (intro w' hSw; (try dsimp only at hSw); go_simp; try with_reducible rfl)
            case' r10 => try simp only [Act.put, List.getElem_toArray, List.getElem_cons_zero, List.getElem_cons_succ, List.setIfInBounds_toArray, List.set_cons_zero, List.set_cons_succ]
            refine wpAnyH_take (i := 11) (v := ?_) rfl (by kernel_rfl) (by kernel_rfl) (by kernel_rfl) (fun _ _ _ h => h) (Or.inl ⟨by rfl, ?y11⟩) hHeld ?r11
            case y11 => (intro w' hSw; (try dsimp only at hSw); go_simp; try with_reducible rfl)
            case' r11 => try simp only [Act.put, List.getElem_toArray, List.getElem_cons_zero, List.getElem_cons_succ, List.setIfInBounds_toArray, List.set_cons_zero, List.set_cons_succ]
            refine wpAnyH_take (i := 12) (v := ?_) rfl (by kernel_rfl) (by kernel_rfl) (by kernel_rfl) (fun _ _ _ h => h) (Or.inl ⟨by rfl, ?y12⟩) hHeld ?r12
            case y12 => (intro w' hSw; (try dsimp only at hSw); go_simp; try with_reducible rfl)
            case' r12 => try simp only [Act.put, List.getElem_toArray, List.getElem_cons_zero, List.getElem_cons_succ, List.setIfInBounds_toArray, List.set_cons_zero, List.set_cons_succ]
            refine wpAnyH_take (i := 13) (v := ?_) rfl (by kernel_rfl) (by kernel_rfl) (by kernel_rfl) (fun _ _ _ h => h) (Or.inl ⟨by rfl, ?y13⟩) hHeld ?r13
            case y13 => (intro w' hSw; (try dsimp only at hSw); go_simp; try with_reducible rfl)
            case' r13 => try simp only [Act.put, List.getElem_toArray, List.getElem_cons_zero, List.getElem_cons_succ, List.setIfInBounds_toArray, List.set_cons_zero, List.set_cons_succ]
            refine wpAnyH_take (i := 14) (v := ?_) rfl (by kernel_rfl) (by kernel_rfl) (by kernel_rfl) (fun _ _ _ h => h) (Or.inl ⟨by rfl, ?y14⟩) hHeld ?r14
            case y14 => (intro w' hSw; (try dsimp only at hSw); go_simp; try with_reducible rfl)
            case' r14 => try simp only [Act.put, List.getElem_toArray, List.getElem_cons_zero, List.getElem_cons_succ, List.setIfInBounds_toArray, List.set_cons_zero, List.set_cons_succ]
            refine wpAnyH_take (i := 15) (v := undef) rfl (by kernel_rfl) (by kernel_rfl) (by kernel_rfl) (fun _ _ _ h => h) (Or.inr ⟨by rfl, rfl⟩) hHeld ?r15
            case' r15 => try simp only [Act.put, List.getElem_toArray, List.getElem_cons_zero, List.getElem_cons_succ, List.setIfInBounds_toArray, List.set_cons_zero, List.set_cons_succ]
            refine wpAnyH_take (i := 16) (v := undef) rfl (by kernel_rfl) (by kernel_rfl) (by kernel_rfl) (fun _ _ _ h => h) (Or.inr ⟨by rfl, rfl⟩) hHeld ?r16
            case' r16 => try simp only [Act.put, List.getElem_toArray, List.getElem_cons_zero, List.getElem_cons_succ, List.setIfInBounds_toArray, List.set_cons_zero, List.set_cons_succ]
            refine wpAnyH_take (i := 17) (v := undef) rfl (by kernel_rfl) (by kernel_rfl) (by kernel_rfl) (fun _ _ _ h => h) (Or.inr ⟨by rfl, rfl⟩) hHeld ?r17
            case' r17 => try simp only [Act.put, List.getElem_toArray, List.getElem_cons_zero, List.getElem_cons_succ, List.setIfInBounds_toArray, List.set_cons_zero, List.set_cons_succ]
            refine wpAnyH_take (i := 18) (v := undef) rfl (by kernel_rfl) (by kernel_rfl) (by kernel_rfl) (fun _ _ _ h => h) (Or.inr ⟨by rfl, rfl⟩) hHeld ?r18
            case' r18 => try simp only [Act.put, List.getElem_toArray, List.getElem_cons_zero, List.getElem_cons_succ, List.setIfInBounds_toArray, List.set_cons_zero, List.set_cons_succ]
            refine wpAnyH_take (i := 19) (v := undef) rfl (by kernel_rfl) (by kernel_rfl) (by kernel_rfl) (fun _ _ _ h => h) (Or.inr ⟨by rfl, rfl⟩) hHeld ?r19
            case' r19 => try simp only [Act.put, List.getElem_toArray, List.getElem_cons_zero, List.getElem_cons_succ, List.setIfInBounds_toArray, List.set_cons_zero, List.set_cons_succ]
            refine wpAnyH_take (i := 20) (v := undef) rfl (by kernel_rfl) (by kernel_rfl) (by kernel_rfl) (fun _ _ _ h => h) (Or.inr ⟨by rfl, rfl⟩) hHeld ?r20
            case' r20 => try simp only [Act.put, List.getElem_toArray, List.getElem_cons_zero, List.getElem_cons_succ, List.setIfInBounds_toArray, List.set_cons_zero, List.set_cons_succ]
            refine wpAnyH_take (i := 21) (v := undef) rfl (by kernel_rfl) (by kernel_rfl) (by kernel_rfl) (fun _ _ _ h => h) (Or.inr ⟨by rfl, rfl⟩) hHeld ?r21
            case' r21 => try simp only [Act.put, List.getElem_toArray, List.getElem_cons_zero, List.getElem_cons_succ, List.setIfInBounds_toArray, List.set_cons_zero, List.set_cons_succ]
            refine wpAnyH_take (i := 22) (v := undef) rfl (by kernel_rfl) (by kernel_rfl) (by kernel_rfl) (fun _ _ _ h => h) (Or.inr ⟨by rfl, rfl⟩) hHeld ?r22
            case' r22 => try simp only [Act.put, List.getElem_toArray, List.getElem_cons_zero, List.getElem_cons_succ, List.setIfInBounds_toArray, List.set_cons_zero, List.set_cons_succ]
            refine wpAnyH_take (i := 23) (v := undef) rfl (by kernel_rfl) (by kernel_rfl) (by kernel_rfl) (fun _ _ _ h => h) (Or.inr ⟨by rfl, rfl⟩) hHeld ?r23
            case' r23 => try simp only [Act.put, List.getElem_toArray, List.getElem_cons_zero, List.getElem_cons_succ, List.setIfInBounds_toArray, List.set_cons_zero, List.set_cons_succ]
            refine wpAnyH_take (i := 24) (v := undef) rfl (by kernel_rfl) (by kernel_rfl) (by kernel_rfl) (fun _ _ _ h => h) (Or.inr ⟨by rfl, rfl⟩) hHeld ?r24
            case' r24 => try simp only [Act.put, List.getElem_toArray, List.getElem_cons_zero, List.getElem_cons_succ, List.setIfInBounds_toArray, List.set_cons_zero, List.set_cons_succ]
            refine wpAnyH_take (i := 25) (v := undef) rfl (by kernel_rfl) (by kernel_rfl) (by kernel_rfl) (fun _ _ _ h => h) (Or.inr ⟨by rfl, rfl⟩) hHeld ?r25
            case' r25 => try simp only [Act.put, List.getElem_toArray, List.getElem_cons_zero, List.getElem_cons_succ, List.setIfInBounds_toArray, List.set_cons_zero, List.set_cons_succ]
            refine wpAnyH_take (i := 26) (v := undef) rfl (by kernel_rfl) (by kernel_rfl) (by kernel_rfl) (fun _ _ _ h => h) (Or.inr ⟨by rfl, rfl⟩) hHeld ?r26
            case' r26 => try simp only [Act.put, List.getElem_toArray, List.getElem_cons_zero, List.getElem_cons_succ, List.setIfInBounds_toArray, List.set_cons_zero, List.set_cons_succ]
            refine wpAnyH_take (i := 27) (v := ?_) rfl (by kernel_rfl) (by kernel_rfl) (by kernel_rfl) (fun _ _ _ h => h) (Or.inl ⟨by rfl, ?y27⟩) hHeld ?r27
            case y27 => (intro w' hSw; (try dsimp only at hSw); go_simp; try with_reducible rfl)
            case' r27 => try simp only [Act.put, List.getElem_toArray, List.getElem_cons_zero, List.getElem_cons_succ, List.setIfInBounds_toArray, List.set_cons_zero, List.set_cons_succ]
            refine wpAnyH_take (i := 28) (v := ?_) rfl (by kernel_rfl) (by kernel_rfl) (by kernel_rfl) (fun _ _ _ h => h) (Or.inl ⟨by rfl, ?y28⟩) hHeld ?r28
            case y28 => (intro w' hSw; (try dsimp only at hSw); go_simp; try with_reducible rfl)
            case' r28 => try simp only [Act.put, List.getElem_toArray, List.getElem_cons_zero, List.getElem_cons_succ, List.setIfInBounds_toArray, List.set_cons_zero, List.set_cons_succ]
            refine wpAnyH_take (i := 29) (v := ?_) rfl (by kernel_rfl) (by kernel_rfl) (by kernel_rfl) (fun _ _ _ h => h) (Or.inl ⟨by rfl, ?y29⟩) hHeld ?r29
            case y29 => (intro w' hSw; (try dsimp only at hSw); go_simp; try with_reducible rfl)
            case' r29 => try simp only [Act.put, List.getElem_toArray, List.getElem_cons_zero, List.getElem_cons_succ, List.setIfInBounds_toArray, List.set_cons_zero, List.set_cons_succ]
            refine wpAnyH_take (i := 30) (v := ?_) rfl (by kernel_rfl) (by kernel_rfl) (by kernel_rfl) (fun _ _ _ h => h) (Or.inl ⟨by rfl, ?y30⟩) hHeld ?r30
            case y30 => (intro w' hSw; (try dsimp only at hSw); go_simp; try with_reducible rfl)
            case' r30 => try simp only [Act.put, List.getElem_toArray, List.getElem_cons_zero, List.getElem_cons_succ, List.setIfInBounds_toArray, List.set_cons_zero, List.set_cons_succ]
            refine wpAnyH_take (i := 31) (v := ?_) rfl (by kernel_rfl) (by kernel_rfl) (by kernel_rfl) (fun _ _ _ h => h) (Or.inl ⟨by rfl, ?y31⟩) hHeld ?r31
            case y31 => (intro w' hSw; (try dsimp only at hSw); go_simp; try with_reducible rfl)
            case' r31 => try simp only [Act.put, List.getElem_toArray, List.getElem_cons_zero, List.getElem_cons_succ, List.setIfInBounds_toArray, List.set_cons_zero, List.set_cons_succ]
            refine wpAnyH_take (i := 32) (v := ?_) rfl (by kernel_rfl) (by kernel_rfl) (by kernel_rfl) (fun _ _ _ h => h) (Or.inl ⟨by rfl, ?y32⟩) hHeld ?r32
            case y32 => (intro w' hSw; (try dsimp only at hSw); go_simp; try with_reducible rfl)
            case' r32 => try simp only [Act.put, List.getElem_toArray, List.getElem_cons_zero, List.getElem_cons_succ, List.setIfInBounds_toArray, List.set_cons_zero, List.set_cons_succ]
            refine wpAnyH_take (i := 33) (v := ?_) rfl (by kernel_rfl) (by kernel_rfl) (by kernel_rfl) (fun _ _ _ h => h) (Or.inl ⟨by rfl, ?y33⟩) hHeld ?r33
            case y33 => (intro w' hSw; (try dsimp only at hSw); go_simp; try with_reducible rfl)
            case' r33 => try simp only [Act.put, List.getElem_toArray, List.getElem_cons_zero, List.getElem_cons_succ, List.setIfInBounds_toArray, List.set_cons_zero, List.set_cons_succ]
            refine wpAnyH_take (i := 34) (v := ?_) rfl (by kernel_rfl) (by kernel_rfl) (by kernel_rfl) (fun _ _ _ h => h) (Or.inl ⟨by rfl, ?y34⟩) hHeld ?r34
            case y34 => (intro w' hSw; (try dsimp only at hSw); go_simp; try with_reducible rfl)
            case' r34 => try simp only [Act.put, List.getElem_toArray, List.getElem_cons_zero, List.getElem_cons_succ, List.setIfInBounds_toArray, List.set_cons_zero, List.set_cons_succ]
            refine wpAnyH_take (i := 36) (v := ?_) rfl (by kernel_rfl) (by kernel_rfl) (by kernel_rfl) (fun _ _ _ h => h) (Or.inl ⟨by rfl, ?y36⟩) hHeld ?r36
            case y36 => (intro w' hSw; (try dsimp only at hSw); go_simp; try with_reducible rfl)
            case' r36 => try simp only [Act.put, List.getElem_toArray, List.getElem_cons_zero, List.getElem_cons_succ, List.setIfInBounds_toArray, List.set_cons_zero, List.set_cons_succ]
            refine wpAnyH_take (i := 37) (v := ?_) rfl (by kernel_rfl) (by kernel_rfl) (by kernel_rfl) (fun _ _ _ h => h) (Or.inl ⟨by rfl, ?y37⟩) hHeld ?r37
            case y37 => (intro w' hSw; (try dsimp only at hSw); go_simp; try with_reducible rfl)
            case' r37 => try simp only [Act.put, List.getElem_toArray, List.getElem_cons_zero, List.getElem_cons_succ, List.setIfInBounds_toArray, List.set_cons_zero, List.set_cons_succ]
            refine wpAnyH_take (i := 38) (v := ?_) rfl (by kernel_rfl) (by kernel_rfl) (by kernel_rfl) (fun _ _ _ h => h) (Or.inl ⟨by rfl, ?y38⟩) hHeld ?r38
            case y38 => (intro w' hSw; (try dsimp only at hSw); go_simp; try with_reducible rfl)
            case' r38 => try simp only [Act.put, List.getElem_toArray, List.getElem_cons_zero, List.getElem_cons_succ, List.setIfInBounds_toArray, List.set_cons_zero, List.set_cons_succ]
            refine wpAnyH_take (i := 39) (v := ?_) rfl (by kernel_rfl) (by kernel_rfl) (by kernel_rfl) (fun _ _ _ h => h) (Or.inl ⟨by rfl, ?y39⟩) hHeld ?r39
            case y39 => (intro w' hSw; (try dsimp only at hSw); go_simp; try with_reducible rfl)
            case' r39 => try simp only [Act.put, List.getElem_toArray, List.getElem_cons_zero, List.getElem_cons_succ, List.setIfInBounds_toArray, List.set_cons_zero, List.set_cons_succ]
            refine wpAnyH_take (i := 40) (v := ?_) rfl (by kernel_rfl) (by kernel_rfl) (by kernel_rfl) (fun _ _ _ h => h) (Or.inl ⟨by rfl, ?y40⟩) hHeld ?r40
            case y40 => (intro w' hSw; (try dsimp only at hSw); go_simp; try with_reducible rfl)
            case' r40 => try simp only [Act.put, List.getElem_toArray, List.getElem_cons_zero, List.getElem_cons_succ, List.setIfInBounds_toArray, List.set_cons_zero, List.set_cons_succ]
            refine wpAnyH_ready (rs := [35]) (by kernel_rfl) (by simp) ?_
            refine AllReadyH.cons (o := ({ dst := some 88, op := Op.call { callee := Callee.value (Operand.func 24), args := #[Operand.tmp 87], argTypes := #[9] }, type := 3, pos := "law.go:126", after := #[{ on := 34, ground := Ground.data }, { on := 29, ground := Ground.chain }, { on := 29, ground := Ground.guard }], guard := some (29, false) } : Oper)) rfl (fun K hK => ?_) AllReadyH.nil
            go_simp
            go_at_call 24
            (with_reducible refine (kind_is x.s HXZ.out _ hgd HK).mono ?_)
            rintro e w7 ⟨rfl, hO7⟩
            refine hK.out _ _ (ag_keep HSD.out hO7) (fun hHeld2 => ?_)
            try simp only [Act.put, List.getElem_toArray, List.getElem_cons_zero, List.getElem_cons_succ, List.setIfInBounds_toArray, List.set_cons_zero, List.set_cons_succ]
            refine wpAnyH_take (i := 41) (v := ?_) rfl (by kernel_rfl) (by kernel_rfl) (by kernel_rfl) (fun _ _ _ h => h) (Or.inl ⟨by rfl, ?y41⟩) hHeld2 ?r41
            case y41 => (intro w' hSw; (try dsimp only at hSw); go_simp; try with_reducible rfl)
            case' r41 => try simp only [Act.put, List.getElem_toArray, List.getElem_cons_zero, List.getElem_cons_succ, List.setIfInBounds_toArray, List.set_cons_zero, List.set_cons_succ]
            refine wpAnyH_take (i := 42) (v := ?_) rfl (by kernel_rfl) (by kernel_rfl) (by kernel_rfl) (fun _ _ _ h => h) (Or.inl ⟨by rfl, ?y42⟩) hHeld2 ?r42
            case y42 => (intro w' hSw; (try dsimp only at hSw); go_simp; try with_reducible rfl)
            case' r42 => try simp only [Act.put, List.getElem_toArray, List.getElem_cons_zero, List.getElem_cons_succ, List.setIfInBounds_toArray, List.set_cons_zero, List.set_cons_succ]
            refine wpAnyH_done (by kernel_rfl) ?_ _
            obtain ⟨y0, y1, y2, y3, -, hOf⟩ := hHeld2
            go_wp2
            go_roundg (L.length - (i + 1))
            case measure => have := HG.out; have := HI.out; omega
            case rel => exact ⟨i + 1, rfl, HI.out, by rw [HW.out.2.2], by first | exact HAT.out | (rw [HUN.out, HW.out.1, HW.out.2.1]; rfl), hOf⟩
        · have hdl : decide ((i : Int) < (L.length : Int)) = false := by simp only [decide_eq_false_iff_not]; omega
          have hin : i = L.length := by omega
          subst hin
          have hOO := hO5'.trans hOr
          by_cases hnil : L = []
          · have hl0 : L.length = 0 := by rw [hnil]; rfl
            have hj : joinR L = [] := by rw [hnil]; rfl
            rw [hl0, hj]
            clear hdl hl0 hj hnil hlt hi hOr
            go_wp2
            go_ret
            exact ⟨rfl, hOO⟩
          · have hpos := List.length_pos_iff.2 hnil
            have hat := Lx.upAt_all (L.map RT.tk) (by simpa using hnil)
            rw [List.length_map, ← HJ.out] at hat
            have hl0 : ((L.length : Int) == 0) = false := beq_eq_false_iff_ne.2 (by omega)
            have hl1 : decide (0 < L.length) = true := by simpa using hpos
            have hl1' : decide ((0 : Int) < (L.length : Int)) = true := by simp only [decide_eq_true_eq]; omega
            have hjl : (joinR L).length ≤ 10000 := by
              have := HB.out
              have e : (⟨(joinR L).toArray⟩ : ByteArray).size = (joinR L).length := by show (joinR L).toArray.size = _; rw [List.size_toArray]
              omega
            have hq : (((Lx.upAt (L.map RT.tk) L.length : Nat) : Int) == ((joinR L).length : Int) + 1) = true := by rw [beq_iff_eq, hat]; omega
            have hwj : wrap64 (((joinR L).length : Int) + 1) = ((joinR L).length : Int) + 1 := IntWalk.wrap64_in _ (by omega)
            clear hlt hi hOr hat hpos
            go_wp2
            go_ret
            exact ⟨rfl, hOO⟩
end Go.Proofs.YtemahghlpbdhiaaDoor
