/- A text without its comments. -/
import Derived.Test.YtdchnjijdkgfhaaGreatDoorBlank
namespace Lx
/-- A text with spaces in the place of the parts that are comments. -/
def strip (l : List B) (cs : List (Nat × Nat)) : List B := cs.foldl (fun b c => blank b c.1 (c.2 - c.1)) l
theorem strip_length (l : List B) (cs : List (Nat × Nat)) : (strip l cs).length = l.length := by
  induction cs generalizing l with
  | nil => rfl
  | cons c r ih =>
    show (strip (blank l c.1 (c.2 - c.1)) r).length = _
    rw [ih, blank_length]
theorem strip_snoc (l : List B) (cs : List (Nat × Nat)) (c : Nat × Nat) : strip l (cs ++ [c]) = blank (strip l cs) c.1 (c.2 - c.1) := by
  unfold strip
  rw [List.foldl_append]
  rfl

theorem comment_le : ∀ (l : List B) (k n m : Nat), comment l k n = .closed m → n + 2 ≤ m ∧ m ≤ n + l.length := by
  intro l k n
  induction l, k, n using comment.induct with
  | case1 r n => intro m h; simp [comment] at h
  | case2 r k n hk ih => intro m h; rw [comment, if_neg hk] at h; have := ih m h; simp only [List.length_cons]; omega
  | case3 r k n hk => intro m h; rw [comment, if_pos hk] at h; cases h; simp only [List.length_cons]; omega
  | case4 r k n hk ih => intro m h; rw [comment, if_neg hk] at h; have := ih m h; simp only [List.length_cons]; omega
  | case5 c r k n h1 h2 ih => intro m h; rw [comment] at h; have := ih m h; simp only [List.length_cons]; omega; exact h1; exact h2
  | case6 k n => intro m h; simp [comment] at h

theorem drop_bound {l : List B} {j : Nat} {p : Nat} {c : Nat × Nat} (hne : l.drop j ≠ []) (h : p + j ≤ c.1 ∧ c.1 < c.2 ∧ c.2 ≤ p + j + (l.drop j).length) : p ≤ c.1 ∧ c.1 < c.2 ∧ c.2 ≤ p + l.length := by
  have : j < l.length := by
    rcases Nat.lt_or_ge j l.length with h' | h'
    · exact h'
    · exact absurd (List.drop_eq_nil_of_le h') hne
  rw [List.length_drop] at h
  omega

theorem scanF_nil (f p : Nat) : scanF f [] p = .ok [] [] := by cases f <;> rfl

theorem coms_in : ∀ (f : Nat) (l : List B) (p : Nat) (ts : List Tok) (cs : List (Nat × Nat)), scanF f l p = .ok ts cs → ∀ c ∈ cs, p ≤ c.1 ∧ c.1 < c.2 ∧ c.2 ≤ p + l.length := by
  intro f
  induction f with
  | zero =>
    intro l p ts cs h c hc
    cases l with
    | nil => rw [scanF_nil] at h; cases h; cases hc
    | cons x r => simp only [scanF] at h; cases h; cases hc
  | succ f ih =>
    intro l p ts cs h c hc
    cases l with
    | nil => rw [scanF_nil] at h; cases h; cases hc
    | cons x r =>
      rw [scanF] at h
      split at h
      · have := ih _ _ _ _ h c hc
        simp only [List.length_cons]
        omega
      · split at h
        · split at h
          · rename_i n hcm
            have hcl := comment_le _ _ _ _ hcm
            cases hs : scanF f ((x :: r).drop n) (p + n) with
            | err a e => rw [hs] at h; cases h
            | ok ts' cs' =>
              rw [hs] at h
              simp only [Scan.com, Scan.ok.injEq] at h
              obtain ⟨rfl, rfl⟩ := h
              rcases List.mem_cons.1 hc with rfl | hc'
              · simp only at *
                omega
              · by_cases hne : (x :: r).drop n = []
                · rw [hne, scanF_nil] at hs
                  cases hs
                  cases hc'
                · exact drop_bound hne (ih _ _ _ _ hs c hc')
          · cases h
          · cases h
        · split at h
          · rename_i k n j hnx
            cases hs : scanF f ((x :: r).drop j) (p + j) with
            | err a e => rw [hs] at h; cases h
            | ok ts' cs' =>
              rw [hs] at h
              simp only [Scan.tok, Scan.ok.injEq] at h
              obtain ⟨rfl, rfl⟩ := h
              by_cases hne : (x :: r).drop j = []
              · rw [hne, scanF_nil] at hs
                cases hs
                cases hc
              · exact drop_bound hne (ih _ _ _ _ hs c hc)
          · cases h
end Lx
namespace Go.Proofs.YtdchnjijdkgfhaaGreatDoor
open Go.RowKit

theorem coms_bound {t : ByteArray} {ts : List Lx.Tok} {C : List (Nat × Nat)} (h : Lx.scan (rest t 0) 0 = .ok ts C) : ∀ c ∈ C, c.1 < c.2 ∧ c.2 ≤ t.size := by
  intro c hc
  have := Lx.coms_in _ _ _ _ _ h c hc
  rw [rest_zero, Array.length_toList] at this
  have e : t.data.size = t.size := rfl
  omega

theorem spanCells_at : ∀ (L : List (Nat × Nat)) (i : Nat) (hi : i < L.length), (spanCells L)[i * 2]? = some (.int .i64 L[i].1) ∧ (spanCells L)[i * 2 + 1]? = some (.int .i64 L[i].2)
  | [], i, hi => by simp at hi
  | x :: r, 0, _ => ⟨rfl, rfl⟩
  | x :: r, i + 1, hi => by
    have := spanCells_at r i (by simpa using hi)
    have e : spanCells (x :: r) = .int .i64 x.1 :: .int .i64 x.2 :: spanCells r := rfl
    rw [e, show (i + 1) * 2 = i * 2 + 1 + 1 from by omega]
    simpa using this

theorem Cm.form {w : World} {b : Nat} {v : Value} {L : List (Nat × Nat)} (h : Cm w b v L) : ∃ la lc, v = .slice la L.length lc := by
  obtain ⟨_, h2⟩ := h
  rcases h2 with ⟨h2, h0⟩ | ⟨g, cap, cur, hv, _⟩
  · exact ⟨none, 0, by rw [h2, h0]⟩
  · exact ⟨_, _, hv⟩
theorem Cm.bound {w : World} {b : Nat} {v : Value} {L : List (Nat × Nat)} (h : Cm w b v L) : L.length ≤ maxLen := by
  obtain ⟨_, h2⟩ := h
  rcases h2 with ⟨h2, h0⟩ | ⟨g, cap, cur, hv, hg, hh, h3, h4, _⟩
  · omega
  · omega
theorem Cm.get {w : World} {b : Nat} {la : Option Addr} {n lc : Nat} {L : List (Nat × Nat)} (h : Cm w b (.slice la n lc) L) (i : Nat) (hi : i < L.length) :
    ∃ g, la = some ⟨g, 0, none⟩ ∧ w.cell? ⟨g, i * 2, none⟩ = some (.int .i64 L[i].1) ∧ w.cell? ⟨g, i * 2 + 1, none⟩ = some (.int .i64 L[i].2) := by
  obtain ⟨_, h2⟩ := h
  rcases h2 with ⟨h2, h0⟩ | ⟨g, cap, cur, hv, hg, hh, h3, h4, h5, h6⟩
  · omega
  · cases hv
    have hs := spanCells_at L i hi
    have hb : ∀ k, k < L.length * 2 → cur[k]? = (spanCells L)[k]? := fun k hk => by
      rw [← h6, List.getElem?_take_of_lt hk, Array.getElem?_toList]
    have hc : ∀ k v, cur[k]? = some v → w.cell? ⟨g, k, none⟩ = some v := fun k v hk => by simp [World.cell?, hh, hk]
    exact ⟨g, rfl, hc _ _ ((hb _ (by omega)).trans hs.1), hc _ _ ((hb _ (by omega)).trans hs.2)⟩

def stripV (t : ByteArray) : Lx.Scan → Value
  | .ok _ C => .tuple #[.string ⟨(Lx.strip t.data.toList C).toArray⟩, .int .i64 0, .int .i64 0]
  | .err p e => .tuple #[.string ⟨#[]⟩, .int .i64 p, .int .i64 e]

/-- An error of a scan is none that is no error. -/
theorem next_code (l : List UInt8) {e : Int} (h : Lx.next l = .err e) : e ≠ 0 := by
  unfold Lx.next at h
  simp only at h
  split at h
  · unfold Lx.nextName at h
    simp only at h
    repeat' split at h
    all_goals first | (cases h; decide) | cases h
  · split at h
    · unfold Lx.nextVar at h
      simp only at h
      split at h <;> cases h
      decide
    · split at h
      · unfold Lx.nextNum at h
        simp only at h
        repeat' split at h
        all_goals first | (cases h; decide) | cases h
      · split at h
        · cases h
        · split at h
          · cases h
          · cases h; decide

theorem scan_code : ∀ (f : Nat) (l : List UInt8) (p a : Nat) (x : Int), Lx.scanF f l p = .err a x → x ≠ 0 := by
  intro f
  induction f with
  | zero => intro l p a x h; cases l <;> simp [Lx.scanF] at h
  | succ f ih =>
    intro l p a x h
    cases l with
    | nil => rw [Lx.scanF_nil] at h; cases h
    | cons c r =>
      rw [Lx.scanF] at h
      split at h
      · exact ih _ _ _ _ h
      · split at h
        · split at h
          · cases hs : Lx.scanF f ((c :: r).drop _) _ with
            | err a' x' => rw [hs] at h; cases h; exact ih _ _ _ _ hs
            | ok ts cs => rw [hs] at h; cases h
          · cases h; decide
          · cases h; decide
        · split at h
          · cases hs : Lx.scanF f ((c :: r).drop _) _ with
            | err a' x' => rw [hs] at h; cases h; exact ih _ _ _ _ hs
            | ok ts cs => rw [hs] at h; cases h
          · rename_i e hn
            cases h
            exact next_code _ hn

theorem byt_new (w : World) (t : ByteArray) (cap : Nat) (hcap : t.size ≤ cap) : Byt ((w.alloc (.cells (bytesRow t cap) 5 ((bytesRow t cap).size, (bytesRow t cap).size + 1))).drew) w.heap.size t.data.toList := by
  refine ⟨⟨_, _, World.alloc_heap_new w _⟩, fun j hj => ?_⟩
  have hj' : j < t.data.size := by rw [Array.length_toList] at hj; exact hj
  refine ⟨?_, ?_⟩
  · show (w.alloc _).cell? _ = _
    rw [World.cell?_alloc_mark, bytesRow_at t cap j hj']
    rfl
  · show (w.alloc _).frozen? _ = _
    rw [World.frozen?_alloc_mark]
    have : ¬ (bytesRow t cap).size ≤ j := by
      have e : (bytesRow t cap).size = t.data.size + (cap - t.size) := by simp [bytesRow]
      omega
    simp [this]

set_option maxRecDepth 100000 in
set_option maxHeartbeats 2000000 in
theorem strip_any (t : ByteArray) (ht : t.size ≤ 140737488355328) (w : World) (hg : Gl w) :
    Calls Tryz.prog 9 #[.string t] w fun e w' => e = .returned (stripV t (Lx.upto t.data.toList 20000)) ∧ Old w w' := by
  have h6 := hg.lt
  have hlen : t.data.toList.length = t.size := by rw [Array.length_toList]; rfl
  go_enter Tryz.func9, Tryz.ntmps9
  go_wp2_with fail
  refine (new_st t w ht).mono ?_
  rintro e w1 ⟨rfl, hS, hC, hO⟩
  go_wp2_with fail
  refine (all_any w1 w.heap.size t _ hS hC (hg.old hO) h6 20000 (by decide)).mono ?_
  rintro e w2 (⟨hm, rfl, hb⟩ | ⟨hm, ts, C, q, v', lv, hsc, rfl, htk, hS2, hC2, hb⟩ | ⟨hm, a, x, hsc, rfl, hb⟩)
  · have hr : Hid (Lx.upto t.data.toList 20000 = .err 0 2) := Lib.hid (by unfold Lx.upto; rw [hlen, if_pos (by omega)])
    have hO2 := hO.below hb
    clear hm hb
    go_wp2
    refine bodyPost_ret (v := stripV t (.err 0 2)) (by simp [results, Tryz.results9, go_sem, stripV]) rfl ⟨by rw [hr.out], hO2⟩
  · have hr : Hid (Lx.upto t.data.toList 20000 = .ok ts C) := Lib.hid (by unfold Lx.upto; rw [hlen, if_neg (by omega)]; exact hsc)
    have hO2 := hO.below hb
    have hbd := Lib.hid (coms_bound hsc)
    have hm' : t.size ≤ 20000 := by omega
    have hcom := hS2.com
    have hfree := hS2.free 9
    have hcv := fun w => run_bytes_of_string (P := Tryz.prog) w 9 53 5 t Tryz.underlying9 Tryz.underlying53 Tryz.underlying5
    have hlt := hS2.lt
    obtain ⟨la, lc, hv'⟩ := hC2.form
    subst hv'
    clear hm hsc hb
    go_wp2_with fail
    have hcap : t.size ≤ grownCap w2 t.size 0 5 := grownCap_ge _ _ _ _
    have hBn := byt_new w2 t _ hcap
    obtain ⟨cap, hcp⟩ : ∃ cap, cap = grownCap w2 t.size 0 5 := ⟨_, rfl⟩
    rw [← hcp] at hcap hBn ⊢
    clear hcp hcv hcom hfree hS hC
    go_loopg [31] C.length (fun g x wr => ∃ i : Nat, g = C.length - i ∧ i ≤ C.length ∧ x = .int .i64 i ∧ Byt wr w2.heap.size (Lx.strip t.data.toList (C.take i)) ∧ Old w2 wr)
    case atStart =>
      exact ⟨0, rfl, Nat.zero_le _, rfl, hBn, ((Old.refl w2).alloc _).drew⟩
    case round =>
      obtain ⟨i, hgk, hi, rfl, hB, hF⟩ := hrel
      have HG := Lib.hid hgk
      clear hgk hBn
      by_cases hlt' : i < C.length
      · have hd : decide ((i : Int) < (C.length : Int)) = true := by simp only [decide_eq_true_eq]; omega
        obtain ⟨g, rfl, x0, x1⟩ := (hC2.old hF).get i hlt'
        have hci := hbd.out C[i] (List.getElem_mem hlt')
        have HS := Lib.hid (Lx.strip_snoc t.data.toList (C.take i) C[i])
        rw [List.take_append_getElem hlt'] at HS
        obtain ⟨p, hp⟩ : ∃ p, C[i].1 = p := ⟨_, rfl⟩
        obtain ⟨r, hr'⟩ : ∃ r, C[i].2 = r := ⟨_, rfl⟩
        rw [hp] at x0 hci HS
        rw [hr'] at x1 hci HS
        clear hp hr'
        obtain ⟨hpr, hrs⟩ := hci
        have hrc : r ≤ cap := by omega
        have hgl : g < wr.heap.size := World.block_lt_of_cell? wr ⟨g, i * 2, none⟩ (by rw [x0])
        have hp1 : ¬ cap = p := by omega
        have hp2 : ¬ p = cap := by omega
        have hlb : (Lx.strip t.data.toList (C.take i)).length = t.size := by rw [Lx.strip_length, hlen]
        have hii : i < C.length := hlt'
        have hwr : Hid (wrap64 ((i : Int) + 1) = (i : Int) + 1) := Lib.hid (by have := hC2.bound; unfold maxLen at this; exact IntWalk.wrap64_in _ (by omega))
        clear hlen
        go_wp2_with fail
        refine (blank_any _ w2.heap.size p (r - p) _ _ (hB.keep ((Old.refl wr).alloc _) (by simp)) (by omega) (by omega)).mono ?_
        rintro e w4 ⟨rfl, hB4, hF4⟩
        have HI := Lib.hid hi
        clear hi x0 x1 hgl hp1 hp2 hrc hpr hrs hlb hd hm' ht hcap hlt
        go_wp2
        go_roundg (C.length - (i + 1))
        case measure => have := HG.out; omega
        case rel => exact ⟨i + 1, rfl, hii, by rw [hwr.out]; rfl, by rw [HS.out]; exact hB4, Old.but' (hF.alloc _) (Nat.le_refl _) hF4⟩
      · have hd : decide ((i : Int) < (C.length : Int)) = false := by simp only [decide_eq_false_iff_not]; omega
        have hin : i = C.length := by omega
        subst hin
        rw [List.take_length] at hB
        have hl2 : (Lx.strip t.data.toList C).length = t.size := by rw [Lx.strip_length, hlen]
        have hbk := run_convert_bytes_back (P := Tryz.prog) wr 53 9 5 ⟨w2.heap.size, 0, none⟩ cap (Lx.strip t.data.toList C) Tryz.underlying53 Tryz.underlying5 Tryz.underlying9 (fun j hj => by
          have := (hB.at_ j hj).1
          have e : (⟨w2.heap.size, 0, none⟩ : Addr).add j = ⟨w2.heap.size, j, none⟩ := by
            cases j with
            | zero => rfl
            | succ j => simp [Addr.add]
          rw [e]; exact this)
        rw [hl2] at hbk
        clear hlt hlen hm' ht hcap hi hlt'
        go_wp2
        refine bodyPost_ret (v := stripV t (.ok ts C)) (by simp [results, Tryz.results9, go_sem, stripV]) rfl ⟨by rw [hr.out], hO2.trans hF⟩
  · have hr : Hid (Lx.upto t.data.toList 20000 = .err a x) := Lib.hid (by unfold Lx.upto; rw [hlen, if_neg (by omega)]; exact hsc)
    have hO2 := hO.below hb
    have hx : (x != 0) = true := by
      have := scan_code _ _ _ _ _ hsc
      simpa using this
    clear hm hb hsc
    go_wp2
    refine bodyPost_ret (v := stripV t (.err a x)) (by simp [results, Tryz.results9, go_sem, stripV]) rfl ⟨by rw [hr.out], hO2⟩
end Go.Proofs.YtdchnjijdkgfhaaGreatDoor
