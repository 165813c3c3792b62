/- Lists of tokens that are the same, wherever these stand. -/
import Derived.Test.YtemahghlpbdhiaaDoorCheck
import Derived.StillTailTactics
namespace Go.Proofs.YtemahghlpbdhiaaDoor
open Go.RowKit

/-- One token as another, but for its place. -/
def RT.like (x y : RT) : Bool := (x.k == y.k) && ((x.n == y.n) && (x.s.toList == y.s.toList))
def sameR : List RT → List RT → Bool
  | [], [] => true
  | x :: l, y :: m => x.like y && sameR l m
  | _, _ => false
theorem sameR_length : ∀ {l m : List RT}, sameR l m = true → l.length = m.length
  | [], [], _ => rfl
  | x :: l, y :: m, h => by
    unfold sameR at h
    rw [Bool.and_eq_true] at h
    rw [List.length_cons, List.length_cons, sameR_length h.2]
  | [], y :: m, h => by cases h
  | x :: l, [], h => by cases h
theorem sameR_of : ∀ {l m : List RT}, l.length = m.length → (∀ i (h1 : i < l.length) (h2 : i < m.length), l[i].like m[i] = true) → sameR l m = true
  | [], [], _, _ => rfl
  | x :: l, y :: m, h, hi => by
    unfold sameR
    rw [show x.like y = true from hi 0 (by simp) (by simp), Bool.true_and]
    exact sameR_of (by simpa using h) (fun i h1 h2 => hi (i + 1) (by simpa using h1) (by simpa using h2))
  | [], y :: m, h, _ => by cases h
  | x :: l, [], h, _ => by cases h
theorem sameR_at : ∀ {l m : List RT}, sameR l m = true → ∀ i (h1 : i < l.length) (h2 : i < m.length), l[i].like m[i] = true
  | x :: l, y :: m, h, 0, _, _ => by unfold sameR at h; rw [Bool.and_eq_true] at h; exact h.1
  | x :: l, y :: m, h, i + 1, h1, h2 => by unfold sameR at h; rw [Bool.and_eq_true] at h; exact sameR_at h.2 i (by simpa using h1) (by simpa using h2)
theorem sameR_no {l m : List RT} {i : Nat} (h1 : i < l.length) (h2 : i < m.length) (h : l[i].like m[i] = false) : sameR l m = false := by
  cases hs : sameR l m
  · rfl
  · rw [sameR_at hs i h1 h2] at h; cases h

/-- The tokens that valid ones become when they are joined and scanned. -/
theorem joined {L : List RT} (h : ∀ x ∈ L, x.valid = true) : joinR L = Lx.jn ((L.map RT.tk).map Lx.Tk0.text) := by
  unfold joinR
  rw [if_pos (List.all_eq_true.2 h), List.map_map]
  rfl
theorem joined_scan {L : List RT} (h : ∀ x ∈ L, x.valid = true) (p : Nat) : Lx.scan (joinR L) p = .ok (Lx.place p (L.map RT.tk)) [] := by
  rw [joined h]
  exact Lx.scan_jn _ p (fun t ht => by
    obtain ⟨x, hx, rfl⟩ := List.mem_map.1 ht
    exact (RT.ok_of (h x hx)).1)
theorem placed_at {L : List RT} (p : Nat) {i : Nat} (hi : i < L.length) (h2 : i < ((Lx.place p (L.map RT.tk)).map rt).length) :
    ((Lx.place p (L.map RT.tk)).map rt)[i] = ⟨L[i].k, L[i].n, ⟨L[i].bytes.toArray⟩, ((p + Lx.upAt (L.map RT.tk) i : Nat) : Int)⟩ := by
  have := Lx.place_get (L.map RT.tk) p i (by simpa using hi)
  rw [List.getElem_map]
  have h3 : i < (Lx.place p (L.map RT.tk)).length := by simpa using h2
  rw [List.getElem?_eq_getElem h3] at this
  rw [Option.some.inj this]
  simp [rt, RT.tk]
theorem like_self (x y : RT) (h1 : x.k = y.k) (h2 : x.n = y.n) (h3 : x.bytes = y.bytes) : x.like y = true := by
  unfold RT.like
  rw [h1, h2]
  have : x.s.toList = y.s.toList := by rw [Lib.toList_data, Lib.toList_data]; exact h3
  rw [this]
  simp
theorem placed_same {L : List RT} (p : Nat) : sameR ((Lx.place p (L.map RT.tk)).map rt) L = true := by
  refine sameR_of (by simp [Lx.place_length]) (fun i h1 h2 => ?_)
  rw [placed_at p h2 h1]
  exact like_self _ _ rfl rfl (by simp [RT.bytes])
theorem placed_valid {L : List RT} (p : Nat) (h : ∀ x ∈ L, x.valid = true) : ∀ x ∈ (Lx.place p (L.map RT.tk)).map rt, x.valid = true := by
  intro x hx
  obtain ⟨i, hi, rfl⟩ := List.mem_iff_getElem.1 hx
  have hi' : i < L.length := by simpa [Lx.place_length] using hi
  rw [placed_at p hi' hi]
  refine RT.valid_of ?_ (by show (0 : Int) ≤ ((p + Lx.upAt (L.map RT.tk) i : Nat) : Int); omega)
  have := (RT.ok_of (h _ (List.getElem_mem hi'))).1
  simpa [RT.tk, RT.bytes] using this
theorem placed_join {L : List RT} (p : Nat) (h : ∀ x ∈ L, x.valid = true) : joinR ((Lx.place p (L.map RT.tk)).map rt) = joinR L := by
  unfold joinR
  rw [if_pos (List.all_eq_true.2 (placed_valid p h)), if_pos (List.all_eq_true.2 h)]
  congr 1
  apply List.ext_getElem
  · simp [Lx.place_length]
  · intro i h1 h2
    have hL : i < L.length := by simpa using h2
    have hP : i < ((Lx.place p (L.map RT.tk)).map rt).length := by simpa using h1
    have e1 : (List.map RT.bytes ((Lx.place p (L.map RT.tk)).map rt))[i] = RT.bytes (((Lx.place p (L.map RT.tk)).map rt)[i]'hP) := List.getElem_map _
    have e2 : (List.map RT.bytes L)[i] = RT.bytes L[i] := List.getElem_map _
    rw [e1, e2, placed_at p hL hP]
    simp [RT.bytes]
theorem valid_short {x : RT} (h : x.valid = true) : x.s.size ≤ 24 := by
  have := Lx.tok_len (RT.ok_of h).1
  simpa [RT.tk, RT.bytes] using this
theorem joinR_length {L : List RT} (h : ∀ x ∈ L, x.valid = true) : (joinR L).length ≤ L.length * 25 := by
  unfold joinR
  rw [if_pos (List.all_eq_true.2 h)]
  have := jn_length 24 (L.map RT.bytes) (fun z hz => by
    obtain ⟨y, hy, rfl⟩ := List.mem_map.1 hz
    have := valid_short (h y hy)
    simpa [RT.bytes] using this)
  rwa [List.length_map] at this

set_option maxRecDepth 100000 in
set_option maxHeartbeats 2000000 in
theorem short_any (L : List RT) (la : Option Addr) (lc : Nat) (w : World) (hg : Gl w) (hL : TlAt w la L) (hn : L.length ≤ 140737488355328) (hs : ∀ x ∈ L, x.s.size ≤ 140737488355328) :
    Calls Tryd.prog 20 #[.slice la L.length lc] w fun e w' => e = .returned (.bool (decide (L.length ≤ 500) && L.all RT.valid)) ∧ Old w w' := by
  by_cases hbig : 500 < L.length
  · have hd : decide ((500 : Int) < (L.length : Int)) = true := by simp only [decide_eq_true_eq]; omega
    have hr : (decide (L.length ≤ 500) && L.all RT.valid) = false := by rw [show decide (L.length ≤ 500) = false from by simp only [decide_eq_false_iff_not]; omega]; rfl
    rw [hr]
    clear hbig hr
    go_enter Tryd.func20, Tryd.ntmps20
    go_wp2
    go_ret
    exact ⟨rfl, Old.refl w⟩
  · have hd : decide ((500 : Int) < (L.length : Int)) = false := by simp only [decide_eq_false_iff_not]; omega
    have hr : (decide (L.length ≤ 500) && L.all RT.valid) = L.all RT.valid := by rw [show decide (L.length ≤ 500) = true from by simp only [decide_eq_true_eq]; omega]; rfl
    rw [hr]
    have h500 := Lib.hid (show L.length ≤ 500 by omega)
    clear hbig hr hn
    go_enter Tryd.func20, Tryd.ntmps20
    go_wp2_with fail
    go_loopg [3] L.length (fun g x wr => ∃ i : Nat, g = L.length - i ∧ i ≤ L.length ∧ x = .int .i64 i ∧ (∀ y ∈ L.take i, y.valid = true) ∧ Old w wr)
    case atStart => exact ⟨0, rfl, Nat.zero_le _, rfl, by simp, Old.refl w⟩
    case round =>
      obtain ⟨i, hgk, hi, rfl, hval, hO⟩ := hrel
      have HG := Lib.hid hgk
      clear hgk
      by_cases hlt : i < L.length
      · have hdl : decide ((i : Int) < (L.length : Int)) = true := by simp only [decide_eq_true_eq]; omega
        obtain ⟨g, o, rfl, hgl, x0, x1, x2, x3⟩ := (hL.old hO) i hlt
        obtain ⟨x, hx⟩ : ∃ x, L[i] = x := ⟨_, rfl⟩
        have hmem : x ∈ L := hx ▸ List.getElem_mem hlt
        have hsz := hs x hmem
        rw [hx] at x0 x1 x2 x3
        have htk : L.take (i + 1) = L.take i ++ [x] := by rw [← hx, List.take_append_getElem hlt]
        have HI := Lib.hid hlt
        have hwr' : Hid (wrap64 ((i : Int) + 1) = ((i + 1 : Nat) : Int)) := Lib.hid (by rw [IntWalk.wrap64_in _ (by have := h500.out; omega)]; omega)
        clear hi
        cases hr : x.valid
        · have HR := Lib.hid hr
          have hall : L.all RT.valid = false := by
            rw [Bool.eq_false_iff]
            intro e
            rw [List.all_eq_true.1 e x hmem] at hr
            cases hr
          have HALL := Lib.hid hall
          clear hr hmem htk hx hall hval hlt
          go_wp2_with fail
          refine (check_any x hsz _ (hg.old hO) HR).mono ?_
          rintro e w2 ⟨rfl, hO2⟩
          have hO3 := hO.trans hO2
          clear hO hO2
          go_wp2
          go_ret
          exact ⟨ret_bool HALL.out.symm, hO3⟩
        · have HR := Lib.hid hr
          have hvn : ∀ y ∈ L.take (i + 1), y.valid = true := by
            intro y hy
            rw [htk, List.mem_append] at hy
            rcases hy with hy | hy
            · exact hval y hy
            · simp at hy; subst hy; exact hr
          have HV := Lib.hid hvn
          clear hr hmem htk hx hval hvn hlt
          go_wp2_with fail
          refine (check_any x hsz _ (hg.old hO) HR).mono ?_
          rintro e w2 ⟨rfl, hO2⟩
          have hO3 := hO.trans hO2
          clear hO hO2
          go_wp2
          go_roundg (L.length - (i + 1))
          case measure => have := HG.out; have := HI.out; omega
          case rel => exact ⟨i + 1, rfl, HI.out, by rw [hwr'.out], HV.out, hO3⟩
      · have hdl : decide ((i : Int) < (L.length : Int)) = false := by simp only [decide_eq_false_iff_not]; omega
        have hin : i = L.length := by omega
        subst hin
        rw [List.take_length] at hval
        have HALL := Lib.hid (List.all_eq_true.2 hval)
        clear hval hlt hi
        go_wp2
        go_ret
        exact ⟨ret_bool HALL.out.symm, hO⟩

set_option maxRecDepth 100000 in
set_option maxHeartbeats 2000000 in
theorem same_any (L M : List RT) (la ma : Option Addr) (lc mc : Nat) (w : World) (hL : TlAt w la L) (hM : TlAt w ma M) (hn : L.length ≤ 140737488355328) (hm : M.length ≤ 140737488355328) :
    Calls Tryd.prog 23 #[.slice la L.length lc, .slice ma M.length mc] w fun e w' => e = .returned (.bool (sameR L M)) ∧ Old w w' := by
  by_cases hne : L.length = M.length
  · have hd : ((L.length : Int) != (M.length : Int)) = false := by simp [hne]
    have HE := Lib.hid hne
    have HN := Lib.hid hn
    clear hne hm hn
    go_enter Tryd.func23, Tryd.ntmps23
    go_wp2_with fail
    go_loopg [13] L.length (fun g x wr => ∃ i : Nat, g = L.length - i ∧ i ≤ L.length ∧ x = .int .i64 i ∧ (∀ j (h1 : j < L.length) (h2 : j < M.length), j < i → L[j].like M[j] = true) ∧ Old w wr)
    case atStart => exact ⟨0, rfl, Nat.zero_le _, rfl, fun j _ _ h => by omega, Old.refl w⟩
    case round =>
      obtain ⟨i, hgk, hi, rfl, hval, hO⟩ := hrel
      have HG := Lib.hid hgk
      clear hgk
      by_cases hlt : i < L.length
      · have hdl : decide ((i : Int) < (L.length : Int)) = true := by simp only [decide_eq_true_eq]; omega
        have hlm : i < M.length := by have := HE.out; omega
        have hdm : (i : Int) < (M.length : Int) := by omega
        obtain ⟨g, o, rfl, hgl, x0, x1, x2, x3⟩ := (hL.old hO) i hlt
        obtain ⟨g', o', rfl, hgl', y0, y1, y2, y3⟩ := (hM.old hO) i hlm
        obtain ⟨x, hx⟩ : ∃ x, L[i] = x := ⟨_, rfl⟩
        obtain ⟨y, hy⟩ : ∃ y, M[i] = y := ⟨_, rfl⟩
        rw [hx] at x0 x1 x2 x3
        rw [hy] at y0 y1 y2 y3
        have HI := Lib.hid hlt
        have hwr' : Hid (wrap64 ((i : Int) + 1) = ((i + 1 : Nat) : Int)) := Lib.hid (by rw [IntWalk.wrap64_in _ (by have := HN.out; omega)]; omega)
        cases hr : x.like y
        · have hno : sameR L M = false := sameR_no hlt hlm (by rw [hx, hy]; exact hr)
          have HNO := Lib.hid hno
          have HR : Hid (((x.k == y.k) && ((x.n == y.n) && (x.s.toList == y.s.toList))) = false) := Lib.hid hr
          clear hr hx hy hval hno hi
          go_wp2_with fail
          go_still_tail 8, (by kernel_rfl)
          change wpList _ _ _ _ _ wr.drew
          have hOd := hO.drew
          generalize wr.drew = wd at hOd ⊢
          go_wp2_with fail
          refine (alike_any x.k x.n x.a y.k y.n y.a x.s y.s _).mono ?_
          rintro e w2 ⟨rfl, hO2⟩
          rw [HR.out]
          have hO3 := hOd.trans hO2
          clear hO hO2 hOd
          go_wp2
          go_ret
          exact ⟨ret_bool HNO.out.symm, hO3⟩
        · have hvn : ∀ j (h1 : j < L.length) (h2 : j < M.length), j < i + 1 → L[j].like M[j] = true := by
            intro j h1 h2 hj
            rcases Nat.lt_succ_iff_lt_or_eq.1 hj with h | h
            · exact hval j h1 h2 h
            · subst h; rw [hx, hy]; exact hr
          have HV := Lib.hid hvn
          have HR : Hid (((x.k == y.k) && ((x.n == y.n) && (x.s.toList == y.s.toList))) = true) := Lib.hid hr
          clear hr hx hy hval hvn hi
          go_wp2_with fail
          go_still_tail 8, (by kernel_rfl)
          change wpList _ _ _ _ _ wr.drew
          have hOd := hO.drew
          generalize wr.drew = wd at hOd ⊢
          go_wp2_with fail
          refine (alike_any x.k x.n x.a y.k y.n y.a x.s y.s _).mono ?_
          rintro e w2 ⟨rfl, hO2⟩
          rw [HR.out]
          have hO3 := hOd.trans hO2
          clear hO hO2 hOd
          go_wp2
          go_roundg (L.length - (i + 1))
          case measure => have := HG.out; have := HI.out; omega
          case rel => exact ⟨i + 1, rfl, HI.out, by rw [hwr'.out], HV.out, hO3⟩
      · have hdl : decide ((i : Int) < (L.length : Int)) = false := by simp only [decide_eq_false_iff_not]; omega
        have hin : i = L.length := by omega
        subst hin
        have hs : sameR L M = true := sameR_of HE.out (fun j h1 h2 => hval j h1 h2 h1)
        have HSS := Lib.hid hs
        clear hval hlt hi hs
        go_wp2
        go_ret
        exact ⟨ret_bool HSS.out.symm, hO⟩
  · have hd : ((L.length : Int) != (M.length : Int)) = true := by simp; omega
    have hs : sameR L M = false := by
      cases hs : sameR L M
      · rfl
      · exact absurd (sameR_length hs) hne
    rw [hs]
    clear hs hne hn hm
    go_enter Tryd.func23, Tryd.ntmps23
    go_wp2
    go_ret
    exact ⟨rfl, Old.refl w⟩

set_option maxRecDepth 100000 in
set_option maxHeartbeats 4000000 in
theorem lexBack_any (L : List RT) (la : Option Addr) (lc : Nat) (w : World) (hg : Gl w) (hL : TlAt w la L) (hn : L.length ≤ 140737488355328) (hs : ∀ x ∈ L, x.s.size ≤ 140737488355328) :
    Calls Tryd.prog 5 #[.slice la L.length lc] w fun e w' => e = .returned (.bool true) ∧ Old w w' := by
  cases hc : (decide (L.length ≤ 500) && L.all RT.valid)
  · have HC := Lib.hid hc
    clear hc
    go_enter Tryd.func5, Tryd.ntmps5
    go_wp2_with fail
    refine (sane_any w hg).mono ?_
    rintro e w1 ⟨rfl, hO⟩
    go_wp2_with fail
    refine (short_any L la lc w1 (hg.old hO) (hL.old hO) hn hs).mono ?_
    rintro e w2 ⟨rfl, hO2⟩
    rw [HC.out]
    have hO' := hO.trans hO2
    clear hO hO2
    go_wp2
    go_ret
    exact ⟨rfl, hO'⟩
  · rw [Bool.and_eq_true, decide_eq_true_eq, List.all_eq_true] at hc
    obtain ⟨h5, hv⟩ := hc
    have hjl := joinR_length hv
    have hbs : (⟨(joinR L).toArray⟩ : ByteArray).size ≤ 12500 := by
      show (joinR L).toArray.size ≤ _
      rw [List.size_toArray]; omega
    have hsc : Lx.upto (⟨(joinR L).toArray⟩ : ByteArray).data.toList 20000 = .ok (Lx.place 0 (L.map RT.tk)) [] := by
      show Lx.upto (joinR L).toArray.toList 20000 = _
      rw [List.toList_toArray]
      unfold Lx.upto
      rw [if_neg (by omega)]
      exact joined_scan hv 0
    have hcc : (decide (L.length ≤ 500) && L.all RT.valid) = true := by rw [Bool.and_eq_true, decide_eq_true_eq, List.all_eq_true]; exact ⟨h5, hv⟩
    have hpl : (Lx.place 0 (L.map RT.tk)).length = L.length := by rw [Lx.place_length, List.length_map]
    have hpm : ((Lx.place 0 (L.map RT.tk)).map rt).length = L.length := by rw [List.length_map]; exact hpl
    have HC := Lib.hid hcc
    have HS := Lib.hid hsc
    have HB := Lib.hid hbs
    have H5 := Lib.hid h5
    have HV := Lib.hid hv
    have HPL := Lib.hid hpl
    have HPM := Lib.hid hpm
    clear hcc hsc hbs hjl h5 hv hpl hpm
    go_enter Tryd.func5, Tryd.ntmps5
    go_wp2_with fail
    refine (sane_any w hg).mono ?_
    rintro e w1 ⟨rfl, hO⟩
    go_wp2_with fail
    refine (short_any L la lc w1 (hg.old hO) (hL.old hO) hn hs).mono ?_
    rintro e w2 ⟨rfl, hO2⟩
    rw [HC.out]
    have hO' := hO.trans hO2
    clear hO hO2
    go_wp2_with fail
    refine (join_any L la lc w2 (hg.old hO') (hL.old hO') (by have := H5.out; omega) hs (fun x hx hxv => by have := valid_short hxv; omega)).mono ?_
    rintro e w3 ⟨rfl, hO3⟩
    have hO3' := hO'.trans hO3
    clear hO' hO3
    go_wp2_with fail
    refine (scan_gives _ (by have := HB.out; omega) w3 (hg.old hO3') HS.out).mono ?_
    rintro e w4 ⟨aa, ac, rfl, hT, hO4⟩
    rw [HPL.out]
    have hO4' := hO3'.trans hO4
    clear hO3' hO4
    have hsm := same_any ((Lx.place 0 (L.map RT.tk)).map rt) L aa la ac lc w4 hT (hL.old hO4') (by rw [HPM.out]; omega) hn
    rw [HPM.out, placed_same] at hsm
    have HSM := Lib.hid hsm
    clear hsm
    go_wp2_with fail
    refine HSM.out.mono ?_
    rintro e w5 ⟨rfl, hO5⟩
    have hO5' := hO4'.trans hO5
    have hjn := join_any ((Lx.place 0 (L.map RT.tk)).map rt) aa ac w5 (hg.old hO5') (hT.old hO5) (by rw [HPM.out]; have := H5.out; omega)
      (fun x hx => by have := valid_short (placed_valid 0 HV.out x hx); omega) (fun x hx hxv => by have := valid_short hxv; omega)
    rw [HPM.out, placed_join 0 HV.out] at hjn
    have HJN := Lib.hid hjn
    clear hO4' hO5 hjn
    go_wp2_with fail
    refine HJN.out.mono ?_
    rintro e w6 ⟨rfl, hO6⟩
    have hO6' := hO5'.trans hO6
    clear hO5' hO6
    go_wp2
    go_ret
    exact ⟨rfl, hO6'⟩
end Go.Proofs.YtemahghlpbdhiaaDoor
