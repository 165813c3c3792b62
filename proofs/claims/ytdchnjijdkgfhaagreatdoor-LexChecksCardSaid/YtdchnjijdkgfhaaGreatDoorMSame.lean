/- Check, Same, and the tokens that are short enough. Lists of tokens that are the same, wherever these stand. The reference's Same and Equal. -/
import Derived.Test.YtdchnjijdkgfhaaGreatDoorSaneAll
import Derived.Test.YtdchnjijdkgfhaaGreatDoorJoinPure
import Derived.Deep.RegionWith
import Derived.StillTailTactics
namespace Go.Proofs.YtdchnjijdkgfhaaGreatDoor
open Go.RowKit

def RT.tk (x : RT) : Lx.Tk0 := ⟨x.k, x.n, x.bytes⟩
theorem RT.ok_of {x : RT} (h : x.valid = true) : x.tk.ok ∧ 0 ≤ x.a := by
  unfold RT.valid Lx.valid at h
  cases hW : Lx.whole x.s.data.toList with
  | none => rw [hW] at h; cases h
  | some y =>
    obtain ⟨k', n'⟩ := y
    rw [hW] at h
    simp only [Bool.and_eq_true, decide_eq_true_eq, beq_iff_eq] at h
    obtain ⟨h0, rfl, rfl⟩ := h
    exact ⟨Lx.whole_iff.1 hW, h0⟩
theorem RT.valid_of {x : RT} (h : x.tk.ok) (h0 : 0 ≤ x.a) : x.valid = true := by
  have hW := Lx.whole_iff.2 h
  unfold RT.valid Lx.valid
  rw [show Lx.whole x.s.data.toList = some (x.k, x.n) from hW]
  simp [h0]

set_option maxRecDepth 100000 in
set_option maxHeartbeats 300000 in
theorem check_any (x : RT) (hs : x.s.size ≤ 140737488355328) (w : World) (hg : Gl w) {r : Bool} (hr : Hid (x.valid = r)) :
    Calls Tryz.prog 14 #[x.v] w fun e w' => e = .returned (.int .i64 (if r then 0 else 10)) ∧ Old w w' := by
  have h6 := hg.lt
  have kT0 := (Blk.new' (b := w.heap.size) rfl #[.int .i64 x.k, .int .i64 x.n, .string x.s, .int .i64 x.a] 41).drew
  obtain ⟨c0, c1, c2, c3, -⟩ := kT0.four
  have hlt0 := kT0.lt
  have hsz0 : (w.alloc (.cells #[.int .i64 x.k, .int .i64 x.n, .string x.s, .int .i64 x.a] 41 (0, 0))).drew.heap.size = w.heap.size + 1 := by simp [World.drew]
  have HSZ := Lib.hid hsz0
  clear hsz0
  go_enter Tryz.func14, Tryz.ntmps14
  go_wp2
  go_region_with (first
    | (go_at_call 32; refine (new_st ⟨#[]⟩ _ (by decide)).mono ?_; rintro e w1 ⟨rfl, hS, hC, hO⟩; rw [HSZ.out] at hS; clear hC; have kT1 := kT0.keep hO (fun e => e); obtain ⟨d0, d1, d2, d3, -⟩ := kT1.four)
    | (go_at_call 38; (with_reducible refine (valid_cases w1 (w.heap.size + 1) ⟨#[]⟩ 0 (.slice none 0 0) hS (((hg.alloc _).old ((Old.refl _).drew)).old hO) (by omega) x hs hr).mono ?_); rintro e w2 ⟨rfl, f2, -⟩))
  all_goals
    have hO2 : Old w w2 := Old.but' ((((Old.refl w).alloc _).drew).trans hO) (Nat.le_succ _) f2
    cases r
    · go_wp2
      go_ret
      exact ⟨rfl, hO2⟩
    · go_wp2
      go_ret
      exact ⟨rfl, hO2⟩
end Go.Proofs.YtdchnjijdkgfhaaGreatDoor

namespace Go.Proofs.YtdchnjijdkgfhaaGreatDoor
open Go.RowKit

/-- One token as another, but for its place. -/
def RT.like (x y : RT) : Bool := (x.k == y.k) && ((x.n == y.n) && (x.s.toList == y.s.toList))
def sameR : List RT → List RT → Bool
  | [], [] => true
  | x :: l, y :: m => x.like y && sameR l m
  | _, _ => false
theorem sameR_length : ∀ {l m : List RT}, sameR l m = true → l.length = m.length
  | [], [], _ => rfl
  | x :: l, y :: m, h => by
    unfold sameR at h
    rw [Bool.and_eq_true] at h
    rw [List.length_cons, List.length_cons, sameR_length h.2]
  | [], y :: m, h => by cases h
  | x :: l, [], h => by cases h
theorem sameR_of : ∀ {l m : List RT}, l.length = m.length → (∀ i (h1 : i < l.length) (h2 : i < m.length), l[i].like m[i] = true) → sameR l m = true
  | [], [], _, _ => rfl
  | x :: l, y :: m, h, hi => by
    unfold sameR
    rw [show x.like y = true from hi 0 (by simp) (by simp), Bool.true_and]
    exact sameR_of (by simpa using h) (fun i h1 h2 => hi (i + 1) (by simpa using h1) (by simpa using h2))
  | [], y :: m, h, _ => by cases h
  | x :: l, [], h, _ => by cases h
theorem sameR_at : ∀ {l m : List RT}, sameR l m = true → ∀ i (h1 : i < l.length) (h2 : i < m.length), l[i].like m[i] = true
  | x :: l, y :: m, h, 0, _, _ => by unfold sameR at h; rw [Bool.and_eq_true] at h; exact h.1
  | x :: l, y :: m, h, i + 1, h1, h2 => by unfold sameR at h; rw [Bool.and_eq_true] at h; exact sameR_at h.2 i (by simpa using h1) (by simpa using h2)
theorem sameR_no {l m : List RT} {i : Nat} (h1 : i < l.length) (h2 : i < m.length) (h : l[i].like m[i] = false) : sameR l m = false := by
  cases hs : sameR l m
  · rfl
  · rw [sameR_at hs i h1 h2] at h; cases h

theorem like_self (x y : RT) (h1 : x.k = y.k) (h2 : x.n = y.n) (h3 : x.bytes = y.bytes) : x.like y = true := by
  unfold RT.like
  rw [h1, h2]
  have : x.s.toList = y.s.toList := by rw [Lib.toList_data, Lib.toList_data]; exact h3
  rw [this]
  simp
theorem valid_short {x : RT} (h : x.valid = true) : x.s.size ≤ 24 := by
  have := Lx.tok_len (RT.ok_of h).1
  simpa [RT.tk, RT.bytes] using this
theorem joinR_length {L : List RT} (h : ∀ x ∈ L, x.valid = true) : (joinR L).length ≤ L.length * 25 := by
  unfold joinR
  rw [if_pos (List.all_eq_true.2 h)]
  have := jn_length 24 (L.map RT.bytes) (fun z hz => by
    obtain ⟨y, hy, rfl⟩ := List.mem_map.1 hz
    have := valid_short (h y hy)
    simpa [RT.bytes] using this)
  rwa [List.length_map] at this

set_option maxRecDepth 100000 in
set_option maxHeartbeats 2000000 in
theorem same_any (L M : List RT) (la ma : Option Addr) (lc mc : Nat) (w : World) (hL : TlAt w la L) (hM : TlAt w ma M) (hn : L.length ≤ 140737488355328) (hm : M.length ≤ 140737488355328) :
    Calls Tryz.prog 18 #[.slice la L.length lc, .slice ma M.length mc] w fun e w' => e = .returned (.bool (sameR L M)) ∧ Old w w' := by
  by_cases hne : L.length = M.length
  · have hd : ((L.length : Int) != (M.length : Int)) = false := by simp [hne]
    have HE := Lib.hid hne
    have HN := Lib.hid hn
    clear hne hm hn
    go_enter Tryz.func18, Tryz.ntmps18
    go_wp2_with fail
    go_loopg [13] L.length (fun g x wr => ∃ i : Nat, g = L.length - i ∧ i ≤ L.length ∧ x = .int .i64 i ∧ (∀ j (h1 : j < L.length) (h2 : j < M.length), j < i → L[j].like M[j] = true) ∧ Old w wr)
    case atStart => exact ⟨0, rfl, Nat.zero_le _, rfl, fun j _ _ h => by omega, Old.refl w⟩
    case round =>
      obtain ⟨i, hgk, hi, rfl, hval, hO⟩ := hrel
      have HG := Lib.hid hgk
      clear hgk
      by_cases hlt : i < L.length
      · have hdl : decide ((i : Int) < (L.length : Int)) = true := by simp only [decide_eq_true_eq]; omega
        have hlm : i < M.length := by have := HE.out; omega
        have hdm : (i : Int) < (M.length : Int) := by omega
        obtain ⟨g, o, rfl, hgl, x0, x1, x2, x3⟩ := (hL.old hO) i hlt
        obtain ⟨g', o', rfl, hgl', y0, y1, y2, y3⟩ := (hM.old hO) i hlm
        obtain ⟨x, hx⟩ : ∃ x, L[i] = x := ⟨_, rfl⟩
        obtain ⟨y, hy⟩ : ∃ y, M[i] = y := ⟨_, rfl⟩
        rw [hx] at x0 x1 x2 x3
        rw [hy] at y0 y1 y2 y3
        have HI := Lib.hid hlt
        have hwr' : Hid (wrap64 ((i : Int) + 1) = ((i + 1 : Nat) : Int)) := Lib.hid (by rw [IntWalk.wrap64_in _ (by have := HN.out; omega)]; omega)
        cases hr : x.like y
        · have hno : sameR L M = false := sameR_no hlt hlm (by rw [hx, hy]; exact hr)
          have HNO := Lib.hid hno
          have HR : Hid (((x.k == y.k) && ((x.n == y.n) && (x.s.toList == y.s.toList))) = false) := Lib.hid hr
          clear hr hx hy hval hno hi
          go_wp2_with fail
          go_still_tail 8, (by kernel_rfl)
          change wpList _ _ _ _ _ wr.drew
          have hOd := hO.drew
          generalize wr.drew = wd at hOd ⊢
          go_wp2_with fail
          refine (alike_any x.k x.n x.a y.k y.n y.a x.s y.s _).mono ?_
          rintro e w2 ⟨rfl, hO2⟩
          rw [HR.out]
          have hO3 := hOd.trans hO2
          clear hO hO2 hOd
          go_wp2
          go_ret
          exact ⟨ret_bool HNO.out.symm, hO3⟩
        · have hvn : ∀ j (h1 : j < L.length) (h2 : j < M.length), j < i + 1 → L[j].like M[j] = true := by
            intro j h1 h2 hj
            rcases Nat.lt_succ_iff_lt_or_eq.1 hj with h | h
            · exact hval j h1 h2 h
            · subst h; rw [hx, hy]; exact hr
          have HV := Lib.hid hvn
          have HR : Hid (((x.k == y.k) && ((x.n == y.n) && (x.s.toList == y.s.toList))) = true) := Lib.hid hr
          clear hr hx hy hval hvn hi
          go_wp2_with fail
          go_still_tail 8, (by kernel_rfl)
          change wpList _ _ _ _ _ wr.drew
          have hOd := hO.drew
          generalize wr.drew = wd at hOd ⊢
          go_wp2_with fail
          refine (alike_any x.k x.n x.a y.k y.n y.a x.s y.s _).mono ?_
          rintro e w2 ⟨rfl, hO2⟩
          rw [HR.out]
          have hO3 := hOd.trans hO2
          clear hO hO2 hOd
          go_wp2
          go_roundg (L.length - (i + 1))
          case measure => have := HG.out; have := HI.out; omega
          case rel => exact ⟨i + 1, rfl, HI.out, by rw [hwr'.out], HV.out, hO3⟩
      · have hdl : decide ((i : Int) < (L.length : Int)) = false := by simp only [decide_eq_false_iff_not]; omega
        have hin : i = L.length := by omega
        subst hin
        have hs : sameR L M = true := sameR_of HE.out (fun j h1 h2 => hval j h1 h2 h1)
        have HSS := Lib.hid hs
        clear hval hlt hi hs
        go_wp2
        go_ret
        exact ⟨ret_bool HSS.out.symm, hO⟩
  · have hd : ((L.length : Int) != (M.length : Int)) = true := by simp; omega
    have hs : sameR L M = false := by
      cases hs : sameR L M
      · rfl
      · exact absurd (sameR_length hs) hne
    rw [hs]
    clear hs hne hn hm
    go_enter Tryz.func18, Tryz.ntmps18
    go_wp2
    go_ret
    exact ⟨rfl, Old.refl w⟩

end Go.Proofs.YtdchnjijdkgfhaaGreatDoor

namespace Go.Proofs.YtdchnjijdkgfhaaGreatDoor
open Go.RowKit

theorem like_is {x y : RT} {a b c : Bool} (h1 : (x.k == y.k) = a) (h2 : (x.n == y.n) = b) (h3 : (x.s.toList == y.s.toList) = c) : x.like y = (a && (b && c)) := by
  unfold RT.like
  rw [h1, h2, h3]

set_option maxRecDepth 100000 in
set_option maxHeartbeats 4000000 in
theorem sameRR_any (L M : List RT) (la ma : Option Addr) (lc mc : Nat) (w : World) (hL : TlAt w la L) (hM : TlAt w ma M) (hn : L.length ≤ 140737488355328) (hm : M.length ≤ 140737488355328) :
    Calls Tryz.prog 19 #[.slice la L.length lc, .slice ma M.length mc] w fun e w' => e = .returned (.bool (sameR L M)) ∧ Old w w' := by
  by_cases hne : L.length = M.length
  · have hd : ((L.length : Int) != (M.length : Int)) = false := by simp [hne]
    have HE := Lib.hid hne
    have HN := Lib.hid hn
    clear hne hm hn
    go_enter Tryz.func19, Tryz.ntmps19
    go_wp2_with fail
    go_loopg [5] L.length (fun g x wr => ∃ i : Nat, g = L.length - i ∧ i ≤ L.length ∧ x = .int .i64 i ∧ (∀ j (h1 : j < L.length) (h2 : j < M.length), j < i → L[j].like M[j] = true) ∧ Old w wr)
    case atStart => exact ⟨0, rfl, Nat.zero_le _, rfl, fun j _ _ h => by omega, Old.refl w⟩
    case round =>
      obtain ⟨i, hgk, hi, rfl, hval, hO⟩ := hrel
      have HG := Lib.hid hgk
      clear hgk
      by_cases hlt : i < L.length
      · have hdl : decide ((i : Int) < (L.length : Int)) = true := by simp only [decide_eq_true_eq]; omega
        have hdl2 : (i : Int) < (L.length : Int) := by omega
        have hlm : i < M.length := by have := HE.out; omega
        have hdm : (i : Int) < (M.length : Int) := by omega
        obtain ⟨g, o, rfl, hgl, x0, x1, x2, x3⟩ := (hL.old hO) i hlt
        obtain ⟨g', o', rfl, hgl', y0, y1, y2, y3⟩ := (hM.old hO) i hlm
        obtain ⟨x, hx⟩ : ∃ x, L[i] = x := ⟨_, rfl⟩
        obtain ⟨y, hy⟩ : ∃ y, M[i] = y := ⟨_, rfl⟩
        rw [hx] at x0 x1 x2 x3
        rw [hy] at y0 y1 y2 y3
        have HI := Lib.hid hlt
        have hwr' : Hid (wrap64 ((i : Int) + 1) = ((i + 1 : Nat) : Int)) := Lib.hid (by rw [IntWalk.wrap64_in _ (by have := HN.out; omega)]; omega)
        cases hk : (x.k == y.k)
        · have nk : (x.k != y.k) = true := by unfold bne; rw [hk]; rfl
          have hno : sameR L M = false := sameR_no hlt hlm (by rw [hx, hy]; exact like_is hk rfl rfl)
          have HNO := Lib.hid hno
          clear hx hy hval hno hi
          go_wp2_with fail
          go_quiet (fail)
          go_wp2
          go_ret
          exact ⟨ret_bool HNO.out.symm, hO.drewN _⟩
        · have nk : (x.k != y.k) = false := by unfold bne; rw [hk]; rfl
          cases hnn : (x.n == y.n)
          · have nn : (x.n != y.n) = true := by unfold bne; rw [hnn]; rfl
            have hno : sameR L M = false := sameR_no hlt hlm (by rw [hx, hy]; rw [like_is hk hnn rfl]; rfl)
            have HNO := Lib.hid hno
            clear hx hy hval hno hi
            go_wp2_with fail
            go_quiet (fail)
            go_wp2
            go_ret
            exact ⟨ret_bool HNO.out.symm, hO.drewN _⟩
          · have nn : (x.n != y.n) = false := by unfold bne; rw [hnn]; rfl
            cases hss : (x.s.toList == y.s.toList)
            · have ns : (x.s.toList != y.s.toList) = true := by unfold bne; rw [hss]; rfl
              have hno : sameR L M = false := sameR_no hlt hlm (by rw [hx, hy]; rw [like_is hk hnn hss]; rfl)
              have HNO := Lib.hid hno
              clear hx hy hval hno hi
              go_wp2_with fail
              go_quiet (fail)
              go_wp2
              go_ret
              exact ⟨ret_bool HNO.out.symm, hO.drewN _⟩
            · have ns : (x.s.toList != y.s.toList) = false := by unfold bne; rw [hss]; rfl
              have hvn : ∀ j (h1 : j < L.length) (h2 : j < M.length), j < i + 1 → L[j].like M[j] = true := by
                intro j h1 h2 hj
                rcases Nat.lt_succ_iff_lt_or_eq.1 hj with h | h
                · exact hval j h1 h2 h
                · subst h; rw [hx, hy, like_is hk hnn hss]; rfl
              have HV := Lib.hid hvn
              clear hx hy hval hvn hi
              go_wp2_with fail
              go_quiet (fail)
              go_wp2
              go_roundg (L.length - (i + 1))
              case measure => have := HG.out; have := HI.out; omega
              case rel => exact ⟨i + 1, rfl, HI.out, by first | rfl | rw [hwr'.out], HV.out, hO.drewN _⟩
      · have hdl : decide ((i : Int) < (L.length : Int)) = false := by simp only [decide_eq_false_iff_not]; omega
        have hin : i = L.length := by omega
        subst hin
        have hs : sameR L M = true := sameR_of HE.out (fun j h1 h2 => hval j h1 h2 h1)
        have HSS := Lib.hid hs
        clear hval hlt hi hs
        go_wp2
        go_ret
        exact ⟨ret_bool HSS.out.symm, hO⟩
  · have hd : ((L.length : Int) != (M.length : Int)) = true := by simp; omega
    have hs : sameR L M = false := by
      cases hs : sameR L M
      · rfl
      · exact absurd (sameR_length hs) hne
    rw [hs]
    clear hs hne hn hm
    go_enter Tryz.func19, Tryz.ntmps19
    go_wp2
    go_ret
    exact ⟨rfl, Old.refl w⟩

theorem sameR_refl (L : List RT) : sameR L L = true := sameR_of rfl (fun i _ _ => like_self _ _ rfl rfl rfl)

set_option maxRecDepth 100000 in
set_option maxHeartbeats 2000000 in
theorem equalRR_self (L : List RT) (n : Nat) (hln : L.length = n) (la ma : Option Addr) (lc mc : Nat) (w : World) (hL : TlAt w la L) (hM : TlAt w ma L) (hn : n ≤ 140737488355328) :
    Calls Tryz.prog 13 #[.slice la n lc, .slice ma n mc] w fun e w' => e = .returned (.bool true) ∧ Old w w' := by
  subst hln
  have HN := Lib.hid hn
  have hsame := sameRR_any L L la ma lc mc w hL hM hn hn
  rw [sameR_refl] at hsame
  have HSM := Lib.hid hsame
  clear hsame hn
  go_enter Tryz.func13, Tryz.ntmps13
  go_wp2_with fail
  refine HSM.out.mono ?_
  rintro e w1 ⟨rfl, hO1⟩
  go_wp2_with fail
  go_loopg [5] L.length (fun g x wr => ∃ i : Nat, g = L.length - i ∧ i ≤ L.length ∧ x = .int .i64 i ∧ Old w wr)
  case atStart => exact ⟨0, rfl, Nat.zero_le _, rfl, hO1⟩
  case round =>
    obtain ⟨i, hgk, hi, rfl, hO⟩ := hrel
    have HG := Lib.hid hgk
    clear hgk
    by_cases hlt : i < L.length
    · have hdl : decide ((i : Int) < (L.length : Int)) = true := by simp only [decide_eq_true_eq]; omega
      have hdl2 : (i : Int) < (L.length : Int) := by omega
      obtain ⟨g, o, rfl, hgl, x0, x1, x2, x3⟩ := (hL.old hO) i hlt
      obtain ⟨g', o', rfl, hgl', y0, y1, y2, y3⟩ := (hM.old hO) i hlt
      obtain ⟨x, hx⟩ : ∃ x, L[i] = x := ⟨_, rfl⟩
      rw [hx] at x0 x1 x2 x3 y0 y1 y2 y3
      have HI := Lib.hid hlt
      have hwr' : Hid (wrap64 ((i : Int) + 1) = ((i + 1 : Nat) : Int)) := Lib.hid (by rw [IntWalk.wrap64_in _ (by have := HN.out; omega)]; omega)
      clear hx hi
      go_wp2_with fail
      go_quiet (fail)
      go_wp2
      go_roundg (L.length - (i + 1))
      case measure => have := HG.out; have := HI.out; omega
      case rel => exact ⟨i + 1, rfl, HI.out, by first | rfl | rw [hwr'.out], hO.drewN _⟩
    · have hdl : decide ((i : Int) < (L.length : Int)) = false := by simp only [decide_eq_false_iff_not]; omega
      have hdn : decide (i < L.length) = false := by simp only [decide_eq_false_iff_not]; omega
      clear hlt hi
      go_wp2
      go_ret
      exact ⟨rfl, hO⟩
end Go.Proofs.YtdchnjijdkgfhaaGreatDoor
