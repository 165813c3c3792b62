/- The reference's comments. The reference's scan. The reference's scan, walked. The reference's scans: Upto of texts that are too long, too; Scan. The reference's text without comments. -/
import Derived.Test.YtdchnjijdkgfhaaGreatDoorRefReader
import Derived.Test.YtdchnjijdkgfhaaGreatDoorRefKind
import Derived.OwnWalk
import Derived.Laws.AppendOwn
namespace Go.Proofs.YtdchnjijdkgfhaaGreatDoor
open Go.RowKit

theorem two_at {s : ByteArray} {j : Nat} (h : j + 1 < s.size) (x y : UInt8) : two (rest s j) x y = ((s.extract j (j + 2)).toList == [x, y]) := by
  have hr : rest s j = s[j] :: s[j + 1] :: rest s (j + 2) := by
    show s.data.toList.drop j = _
    rw [drop_cons (t := s) (j := j) (by omega), drop_cons (t := s) (j := j + 1) h]
  rw [extract_two h, two_is, hr]
  unfold two Lib.hasPrefix
  rw [Bool.eq_iff_iff]
  simp only [List.isPrefixOf, Bool.and_true, Bool.and_eq_true, beq_iff_eq, decide_eq_true_eq]
  exact ⟨fun h => ⟨h.1.symm, h.2.symm⟩, fun h => ⟨h.1.symm, h.2.symm⟩⟩
theorem comment_short {l : List UInt8} (h : l.length ≤ 1) (k n : Nat) : Lx.comment l k n = .open := by
  match l, h with
  | [], _ => exact comment_end k n
  | [c], _ =>
    rw [comment_skip (by simp [two, Lib.hasPrefix, List.isPrefixOf]) (by simp [two, Lib.hasPrefix, List.isPrefixOf])]
    exact comment_end _ _

/-- What the reference's comment hands back. -/
def comV (i : Nat) : Lx.Com → Value
  | .closed n => .agg #[.int .i64 ((i + n : Nat) : Int), .int .i64 0, .int .i64 0]
  | .open => .agg #[.int .i64 0, .int .i64 i, .int .i64 12]
  | .deep n => .agg #[.int .i64 0, .int .i64 ((i + n : Nat) : Int), .int .i64 6]

set_option maxRecDepth 100000 in
set_option maxHeartbeats 2000000 in
theorem commentR_any (s : ByteArray) (hs : s.size ≤ 140737488355328) (i : Nat) (hb0 : Hid (two (rest s i) 40 42 = true)) (w : World) :
    Calls Tryz.prog 36 #[.string s, .int .i64 i] w fun e w' => e = .returned (comV i (Lx.comment (rest s i) 0 0)) ∧ Old w w' := by
  have hi2 : i + 2 ≤ s.size := by
    obtain ⟨r, hr⟩ := two_true hb0.out
    have h1 := rest_length s i
    rw [hr] at h1
    simp only [List.length_cons] at h1
    omega
  obtain ⟨R, hR⟩ : ∃ R, Lx.comment (rest s i) 0 0 = R := ⟨_, rfl⟩
  rw [hR]
  have HR := Lib.hid hR
  have HI2 := Lib.hid hi2
  have HS := Lib.hid hs
  clear hR hi2
  go_enter Tryz.func36, Tryz.ntmps36
  go_wp2_with fail
  go_loopg [5, 6] (s.size - i) (fun g x y wr => ∃ J k : Nat, g = s.size - J ∧ i ≤ J ∧ J ≤ s.size ∧ x = .int .i64 k ∧ y = .int .i64 J ∧ ComRel (rest s i) (J - i) k ∧ wr = w.alloc (.cells #[.int .i64 0, .int .i64 0, .int .i64 0] 66 (0, 0)))
  case atStart => exact ⟨i, 0, rfl, Nat.le_refl _, by have := HI2.out; omega, rfl, rfl, ⟨by omega, .inr (by omega), by rw [Nat.sub_self]; rfl⟩, rfl⟩
  case round =>
    obtain ⟨J, k, hgk, hiJ, hJs, rfl, rfl, hrel, rfl⟩ := hrel
    have HG := Lib.hid hgk
    have hk100 := hrel.1
    have hC1 : Hid (R = Lx.comment (rest s J) k (J - i)) := Lib.hid (by
      have := hrel.2.2
      rw [HR.out, show (rest s i).drop (J - i) = rest s J from by rw [rest_drop]; congr 1; omega] at this
      exact this)
    have hk1 : Hid (0 < k ∨ J = i) := Lib.hid (by have := hrel.2.1; omega)
    have HIJ := Lib.hid hiJ
    clear hgk hrel hiJ hs
    have hw1 : wrap64 ((J : Int) + 1) = (J : Int) + 1 := IntWalk.wrap64_in _ (by have := HS.out; omega)
    have hw2 : wrap64 ((J : Int) + 2) = (J : Int) + 2 := IntWalk.wrap64_in _ (by have := HS.out; omega)
    obtain ⟨c0, c1, c2, e0, e1, e2⟩ : (w.alloc (.cells #[.int .i64 0, .int .i64 0, .int .i64 0] 66 (0, 0))).cell? ⟨w.heap.size, 0, none⟩ = some (.int .i64 0) ∧ (w.alloc (.cells #[.int .i64 0, .int .i64 0, .int .i64 0] 66 (0, 0))).cell? ⟨w.heap.size, 1, none⟩ = some (.int .i64 0) ∧ (w.alloc (.cells #[.int .i64 0, .int .i64 0, .int .i64 0] 66 (0, 0))).cell? ⟨w.heap.size, 2, none⟩ = some (.int .i64 0) ∧ True ∧ True ∧ True := ⟨(Blk.new w _ _).cell rfl, (Blk.new w _ _).cell rfl, (Blk.new w _ _).cell rfl, trivial, trivial, trivial⟩
    by_cases hlt : J + 1 < s.size
    · have hd : decide ((J : Int) + 1 < (s.size : Int)) = true := by simp only [decide_eq_true_eq]; omega
      have f1 : (J : Int) ≤ (J : Int) + 2 := by omega
      have f2 : (J : Int) + 2 ≤ (s.size : Int) := by omega
      have f3 : ((J : Int) + 2).toNat = J + 2 := by omega
      have f4 : 0 ≤ (J : Int) + 2 := by omega
      have t1 := Lib.hid (two_at hlt 40 42)
      have t2 := Lib.hid (two_at hlt 42 41)
      cases hB : ((s.extract J (J + 2)).toList == ([40, 42] : List UInt8))
      · have hkp : 0 < k := by
          rcases hk1.out with h | h
          · exact h
          · subst h
            have := t1.out
            rw [hb0.out, hB] at this
            cases this
        cases hE : ((s.extract J (J + 2)).toList == ([42, 41] : List UInt8))
        · have hsk : Hid (Lx.comment (rest s J) k (J - i) = Lx.comment (rest s (J + 1)) k (J + 1 - i)) := Lib.hid (by
            have hr : rest s J = s[J] :: rest s (J + 1) := drop_cons (t := s) (j := J) (by omega)
            have g1 := t1.out.trans hB
            have g2 := t2.out.trans hE
            rw [hr] at g1 g2 ⊢
            rw [comment_skip g1 g2]
            congr 1
            have := HIJ.out
            omega)
          go_wp2
          go_roundg (s.size - (J + 1))
          case measure => have := HG.out; omega
          case rel => exact ⟨J + 1, k, rfl, by have := HIJ.out; omega, by omega, rfl, congrArg (Value.int .i64) (by omega), ⟨hk100, .inl hkp, by rw [HR.out, hC1.out, hsk.out, rest_drop]; congr 2; have := HIJ.out; omega⟩, rfl⟩
        · have hcl := Lib.hid (comment_close (t2.out.trans hE) k (J - i))
          have hwk : wrap64 ((k : Int) - 1) = (k : Int) - 1 := IntWalk.wrap64_in _ (by omega)
          by_cases hk : k = 1
          · have hz : ((k : Int) - 1 == 0) = true := by rw [beq_iff_eq]; omega
            have hRc : Hid (R = .closed (J - i + 2)) := Lib.hid (by rw [hC1.out, hcl.out, if_pos (by omega)])
            go_wp2
            refine bodyPost_ret (v := .agg #[.int .i64 ((J : Int) + 2), .int .i64 0, .int .i64 0]) (by simp [results, Tryz.results36, go_sem, c0, c1, c2]) rfl ⟨?_, ?_⟩
            · rw [hRc.out]
              show _ = Ending.returned (.agg #[.int .i64 ((i + (J - i + 2) : Nat) : Int), _, _])
              rw [show ((i + (J - i + 2) : Nat) : Int) = (J : Int) + 2 from by have := HIJ.out; omega]
            · exact (Old.refl w).alloc _
          · have hz : ((k : Int) - 1 == 0) = false := by rw [beq_eq_false_iff_ne]; omega
            go_wp2
            go_roundg (s.size - (J + 2))
            case measure => have := HG.out; omega
            case rel => exact ⟨J + 2, k - 1, rfl, by have := HIJ.out; omega, by omega, congrArg (Value.int .i64) (by omega), congrArg (Value.int .i64) (by omega), ⟨by omega, .inl (by omega), by
              rw [HR.out, hC1.out, hcl.out, if_neg (by omega), rest_drop, rest_drop]
              have := HIJ.out
              rw [show i + (J + 2 - i) = J + 2 from by omega, show J - i + 2 = J + 2 - i from by omega]⟩, rfl⟩
      · by_cases hk : k = 100
        · subst hk
          have hdp := Lib.hid (comment_deep (t1.out.trans hB) (J - i))
          have hRc : Hid (R = .deep (J - i)) := Lib.hid (by rw [hC1.out, hdp.out])
          go_wp2
          refine bodyPost_ret (v := .agg #[.int .i64 0, .int .i64 J, .int .i64 6]) (by simp [results, Tryz.results36, go_sem, c0, c1, c2]) rfl ⟨?_, ?_⟩
          · rw [hRc.out]
            show _ = Ending.returned (.agg #[_, .int .i64 ((i + (J - i) : Nat) : Int), _])
            rw [show i + (J - i) = J from by have := HIJ.out; omega]
          · exact (Old.refl w).alloc _
        · have hdk : decide ((100 : Int) ≤ (k : Int)) = false := by simp only [decide_eq_false_iff_not]; omega
          have hdk' : (k : Int) < 100 := by omega
          have hwk : wrap64 ((k : Int) + 1) = (k : Int) + 1 := IntWalk.wrap64_in _ (by omega)
          have hop := Lib.hid (comment_open (t1.out.trans hB) (k := k) hk (J - i))
          go_wp2
          go_roundg (s.size - (J + 2))
          case measure => have := HG.out; omega
          case rel => exact ⟨J + 2, k + 1, rfl, by have := HIJ.out; omega, by omega, congrArg (Value.int .i64) (by omega), congrArg (Value.int .i64) (by omega), ⟨by omega, .inl (by omega), by
            rw [HR.out, hC1.out, hop.out, rest_drop, rest_drop]
            have := HIJ.out
            rw [show i + (J + 2 - i) = J + 2 from by omega, show J - i + 2 = J + 2 - i from by omega]⟩, rfl⟩
    · have hd : decide ((J : Int) + 1 < (s.size : Int)) = false := by simp only [decide_eq_false_iff_not]; omega
      have hRc : Hid (R = .open) := Lib.hid (by rw [hC1.out]; exact comment_short (by rw [rest_length]; omega) _ _)
      go_wp2
      refine bodyPost_ret (v := .agg #[.int .i64 0, .int .i64 i, .int .i64 12]) (by simp [results, Tryz.results36, go_sem, c0, c1, c2]) rfl ⟨?_, ?_⟩
      · rw [hRc.out]
        rfl
      · exact (Old.refl w).alloc _
end Go.Proofs.YtdchnjijdkgfhaaGreatDoor

namespace Go.Proofs.YtdchnjijdkgfhaaGreatDoor
open Go.RowKit

theorem infoInt : (Tryz.prog.info? 3).map (fun i => (i.zero, i.size, i.bytes)) = some (some (.int .i64 0), 1, 8) := by kernel_rfl

/-- Tokens in a row of one's own; comments' ends in a row of one's own. -/
abbrev TkR (w : World) (B : Nat) (v : Value) (L : List Lx.Tok) : Prop := w.ownsRow B 41 4 v L.length (tokCells L)
abbrev CmR (w : World) (B : Nat) (v : Value) (C : List (Nat × Nat)) : Prop := w.ownsRow B 3 1 v (C.length * 2) (spanCells C)
theorem tkR_nil (w : World) (b : Nat) : TkR w b (.slice none 0 0) [] := ⟨rfl, .inl ⟨rfl, rfl⟩⟩
theorem cmR_nil (w : World) (b : Nat) : CmR w b (.slice none 0 0) [] := ⟨rfl, .inl ⟨rfl, rfl⟩⟩
theorem own_lt {w : World} {base : Nat} {e : TypeId} {size : Nat} {v : Value} {n : Nat} {xs : List Value} (h : w.ownsRow base e size v n xs) {k : Nat} (hk : v.ownBlock = some k) : k < w.heap.size := by
  obtain ⟨_, cs, hcs⟩ := own_cells h hk
  exact lt_of_block hcs

theorem own_slice {w : World} {base : Nat} {e : TypeId} {size : Nat} {v : Value} {n : Nat} {xs : List Value} (h : w.ownsRow base e size v n xs) : ∃ a c, v = .slice a n c := by
  obtain ⟨_, h2⟩ := h
  rcases h2 with ⟨h2, hn⟩ | ⟨g, cap, cur, hv, _⟩
  · exact ⟨none, 0, by rw [h2, hn]⟩
  · exact ⟨_, _, hv⟩

/-- What the reference's scan hands back. -/
def UptoPost (w : World) (r : Lx.Scan) (e : Ending) (w' : World) : Prop :=
  ∃ lv cv, e = .returned (.agg #[lv, cv, .int .i64 r.at_, .int .i64 r.code]) ∧ TkR w' w.heap.size lv r.toks ∧ CmR w' w.heap.size cv r.coms ∧ Old w w'

/-- Between two rounds: what is read so far. -/
structure UpAt (w0 : World) (s : ByteArray) (J : Nat) (ts : List Lx.Tok) (C : List (Nat × Nat)) (lv cv : Value) (W : World) : Prop where
  res : Blk W w0.heap.size #[.slice none 0 0, .slice none 0 0, .int .i64 0, .int .i64 0] 29
  out : Blk W (w0.heap.size + 1) #[lv, cv, .int .i64 0, .int .i64 0] 29
  toks : TkR W w0.heap.size lv ts
  coms : CmR W w0.heap.size cv C
  old : Old w0 W
  tl : ts.length ≤ J
  cl : C.length ≤ J
  hd : Lx.scan (rest s 0) 0 = (Lx.scan (rest s J) J).pre ts C

theorem UpAt.keep {w0 W W' : World} {s : ByteArray} {J J' : Nat} {ts : List Lx.Tok} {C : List (Nat × Nat)} {lv cv : Value} (h : UpAt w0 s J ts C lv cv W) (hf : Old W W') (hJ : J ≤ J') (hs : Lx.scan (rest s J) J = Lx.scan (rest s J') J') : UpAt w0 s J' ts C lv cv W' :=
  ⟨h.res.keep hf (fun e => e), h.out.keep hf (fun e => e), own_keep h.toks hf (fun _ _ e => e), own_keep h.coms hf (fun _ _ e => e), h.old.trans hf, Nat.le_trans h.tl hJ, Nat.le_trans h.cl hJ, hs ▸ h.hd⟩

theorem scan_space_at {s : ByteArray} {J : Nat} (h : J < s.size) (hs : Lx.space s[J] = true) : Lx.scan (rest s J) J = Lx.scan (rest s (J + 1)) (J + 1) := by
  have hr : rest s J = s[J] :: rest s (J + 1) := drop_cons h
  rw [hr, Lx.scan_space hs]
theorem begins_at {s : ByteArray} {J : Nat} (h : J + 1 < s.size) : Lx.begins (rest s J) = ((s.extract J (J + 2)).toList == ([40, 42] : List UInt8)) := by
  unfold Lx.begins
  rw [extract_two h, two_is, peek_in (p := J) (n := 0) (by omega), peek_in (p := J) (n := 1) h]
  rfl
theorem begins_short {s : ByteArray} {J : Nat} (h : ¬ J + 1 < s.size) : Lx.begins (rest s J) = false := by
  unfold Lx.begins
  rw [peek_out (p := J) (n := 1) (by omega)]
  simp
theorem begins_is_two {s : ByteArray} {J : Nat} (h : Lx.begins (rest s J) = true) : two (rest s J) 40 42 = true := by
  rw [two_eq _ _ _ (by decide) (by decide)]
  exact h
theorem scan_tok_at {s : ByteArray} {J : Nat} (h : J < s.size) (hs : Lx.space s[J] = false) (hb : Lx.begins (rest s J) = false) :
    Lx.scan (rest s J) J = match Lx.next (rest s J) with
      | .tok k n j => (Lx.scan (rest s (J + j)) (J + j)).tok { kind := k, num := n, text := (rest s J).take j, pos := J }
      | .err e => .err J e := by
  have hr : rest s J = s[J] :: rest s (J + 1) := drop_cons h
  have := Lx.scan_tok (c := s[J]) (r := rest s (J + 1)) hs (by rw [← hr]; exact hb) J
  rw [← hr] at this
  rw [this]
  cases Lx.next (rest s J) with
  | tok k n j => simp only; rw [rest_drop]
  | err e => rfl
theorem scan_com_at {s : ByteArray} {J : Nat} (h : J < s.size) (hs : Lx.space s[J] = false) (hb : Lx.begins (rest s J) = true) :
    Lx.scan (rest s J) J = match Lx.comment (rest s J) 0 0 with
      | .closed n => (Lx.scan (rest s (J + n)) (J + n)).com J (J + n)
      | .open => .err J 12
      | .deep n => .err (J + n) 6 := by
  have hr : rest s J = s[J] :: rest s (J + 1) := drop_cons h
  have := Lx.scan_com (c := s[J]) (r := rest s (J + 1)) hs (by rw [← hr]; exact hb) J
  rw [← hr] at this
  rw [this]
  cases Lx.comment (rest s J) 0 0 with
  | closed n => simp only; rw [rest_drop]
  | «open» => rfl
  | deep n => rfl
theorem commentR_is (s : ByteArray) (hs : s.size ≤ 140737488355328) (i : Nat) (hb0 : Hid (two (rest s i) 40 42 = true)) {R : Lx.Com} (hR : Hid (Lx.comment (rest s i) 0 0 = R)) (w : World) :
    Calls Tryz.prog 36 #[.string s, .int .i64 i] w fun e w' => e = .returned (comV i R) ∧ Old w w' := by
  have h := commentR_any s hs i hb0 w
  rwa [hR.out] at h
theorem readR_at (s : ByteArray) (hs : s.size ≤ 140737488355328) (i : Nat) (hi : i < s.size) {x : Lx.Next} (hx : Hid (Lx.next (rest s i) = x)) (w : World) :
    Calls Tryz.prog 37 #[.string s, .int .i64 i] w fun e w' => e = .returned (readV s i x) ∧ Old w w' := by
  have h := readR_any s hs i hi w
  rwa [hx.out] at h

/-- What was read is handed back. -/
theorem UpAt.done {w0 W : World} {s : ByteArray} {J : Nat} {ts : List Lx.Tok} {C : List (Nat × Nat)} {lv cv : Value} (h : UpAt w0 s J ts C lv cv W) (v0 v1 v2 v3 : Value) :
    TkR ((((W.setCell ⟨w0.heap.size, 0, none⟩ v0).setCell ⟨w0.heap.size, 1, none⟩ v1).setCell ⟨w0.heap.size, 2, none⟩ v2).setCell ⟨w0.heap.size, 3, none⟩ v3) w0.heap.size lv ts ∧
    CmR ((((W.setCell ⟨w0.heap.size, 0, none⟩ v0).setCell ⟨w0.heap.size, 1, none⟩ v1).setCell ⟨w0.heap.size, 2, none⟩ v2).setCell ⟨w0.heap.size, 3, none⟩ v3) w0.heap.size cv C ∧
    Old w0 ((((W.setCell ⟨w0.heap.size, 0, none⟩ v0).setCell ⟨w0.heap.size, 1, none⟩ v1).setCell ⟨w0.heap.size, 2, none⟩ v2).setCell ⟨w0.heap.size, 3, none⟩ v3) := by
  have hB : But w0.heap.size W ((((W.setCell ⟨w0.heap.size, 0, none⟩ v0).setCell ⟨w0.heap.size, 1, none⟩ v1).setCell ⟨w0.heap.size, 2, none⟩ v2).setCell ⟨w0.heap.size, 3, none⟩ v3) :=
    ((((But.refl _ W).setCell ⟨w0.heap.size, 0, none⟩ (fun _ => rfl) v0).setCell ⟨w0.heap.size, 1, none⟩ (fun _ => rfl) v1).setCell ⟨w0.heap.size, 2, none⟩ (fun _ => rfl) v2).setCell ⟨w0.heap.size, 3, none⟩ (fun _ => rfl) v3
  exact ⟨own_keep h.toks hB (fun k hk e => by subst e; exact own_ne h.toks hk h.res (by intro cs e; cases e)), own_keep h.coms hB (fun k hk e => by subst e; exact own_ne h.coms hk h.res (by intro cs e; cases e)), h.old.set4 (Nat.le_refl _) _ _ _ _⟩

/-- A token more. -/
theorem UpAt.tok {w0 W w1 w3 : World} {s : ByteArray} {J j : Nat} {ts : List Lx.Tok} {C : List (Nat × Nat)} {lv cv lv' : Value} {k n : Int} (h : UpAt w0 s J ts C lv cv W) (hf : Old W w1) (hj : 1 ≤ j) (hr : Fr (fun k => lv.ownBlock = some k) w1 w3)
    (hown : w3.ownsRow w0.heap.size 41 4 lv' (ts.length + 1) (tokCells ts ++ [.int .i64 k, .int .i64 n, .string ⟨((rest s J).take j).toArray⟩, .int .i64 J]))
    (hs : Lx.scan (rest s J) J = (Lx.scan (rest s (J + j)) (J + j)).tok { kind := k, num := n, text := (rest s J).take j, pos := J }) :
    UpAt w0 s (J + j) (ts ++ [{ kind := k, num := n, text := (rest s J).take j, pos := J }]) C lv' cv (w3.setCell ⟨w0.heap.size + 1, 0, none⟩ lv') := by
  have h1 := h.keep hf (Nat.le_refl J) rfl
  have hne : ∀ {q : Nat} {cs : Array Value}, Blk w1 q cs 29 → ¬ lv.ownBlock = some q := fun hq e => own_ne h1.toks e hq (by intro cs e; cases e)
  have hne2 : ∀ k, cv.ownBlock = some k → ¬ lv.ownBlock = some k := fun k hk e => by
    obtain ⟨_, cs, hcs⟩ := own_cells h1.coms hk
    exact own_ne h1.toks e hcs (by intro cs e; cases e)
  have o3 := h1.out.keep hr (hne h1.out)
  have hB : But (w0.heap.size + 1) w3 (w3.setCell ⟨w0.heap.size + 1, 0, none⟩ lv') := (But.refl _ w3).setCell ⟨w0.heap.size + 1, 0, none⟩ (fun _ => rfl) _
  have g1 : Fr (fun k => lv.ownBlock = some k ∨ k = w0.heap.size + 1) w1 (w3.setCell ⟨w0.heap.size + 1, 0, none⟩ lv') := Fr.trans' (hr.mono (fun _ _ e => .inl e)) hB (fun _ _ e => .inr e)
  refine ⟨h1.res.keep g1 (fun e => e.elim (hne h1.res) (by omega)), ?_, ?_, ?_, ?_, ?_, ?_, ?_⟩
  · have := o3.set 0 lv'
    exact this
  · have : w3.ownsRow w0.heap.size 41 4 lv' (ts ++ [({ kind := k, num := n, text := (rest s J).take j, pos := J } : Lx.Tok)]).length (tokCells (ts ++ [{ kind := k, num := n, text := (rest s J).take j, pos := J }])) := by
      rw [tokCells_snoc, List.length_append]
      exact hown
    exact own_keep this hB (fun k hk e => by subst e; exact own_ne this hk o3 (by intro cs e; cases e))
  · exact own_keep h1.coms g1 (fun k hk e => e.elim (hne2 k hk) (fun e => by subst e; exact own_ne h1.coms hk h1.out (by intro cs e; cases e)))
  · exact Fr.trans' h1.old g1 (fun i hi e => by
      rcases e with e | e
      · have := (own_cells h1.toks e).1; omega
      · omega)
  · rw [List.length_append]; have := h.tl; simp only [List.length_cons, List.length_nil]; omega
  · have := h.cl; omega
  · rw [h.hd, hs, Lx.Scan.tok_pre, Lx.Scan.pre_pre, List.append_nil]

/-- A comment more. -/
theorem UpAt.com {w0 W w1 w3 : World} {s : ByteArray} {J j : Nat} {ts : List Lx.Tok} {C : List (Nat × Nat)} {lv cv cv' : Value} (h : UpAt w0 s J ts C lv cv W) (hf : Old W w1) (hj : 1 ≤ j) (hr : Fr (fun k => cv.ownBlock = some k) w1 w3)
    (hown : w3.ownsRow w0.heap.size 3 1 cv' (C.length * 2 + 2) (spanCells C ++ [.int .i64 J, .int .i64 ((J + j : Nat) : Int)]))
    (hs : Lx.scan (rest s J) J = (Lx.scan (rest s (J + j)) (J + j)).com J (J + j)) :
    UpAt w0 s (J + j) ts (C ++ [(J, J + j)]) lv cv' (w3.setCell ⟨w0.heap.size + 1, 1, none⟩ cv') := by
  have h1 := h.keep hf (Nat.le_refl J) rfl
  have hne : ∀ {q : Nat} {cs : Array Value}, Blk w1 q cs 29 → ¬ cv.ownBlock = some q := fun hq e => own_ne h1.coms e hq (by intro cs e; cases e)
  have hne2 : ∀ k, lv.ownBlock = some k → ¬ cv.ownBlock = some k := fun k hk e => by
    obtain ⟨_, cs, hcs⟩ := own_cells h1.toks hk
    exact own_ne h1.coms e hcs (by intro cs e; cases e)
  have o3 := h1.out.keep hr (hne h1.out)
  have hB : But (w0.heap.size + 1) w3 (w3.setCell ⟨w0.heap.size + 1, 1, none⟩ cv') := (But.refl _ w3).setCell ⟨w0.heap.size + 1, 1, none⟩ (fun _ => rfl) _
  have g1 : Fr (fun k => cv.ownBlock = some k ∨ k = w0.heap.size + 1) w1 (w3.setCell ⟨w0.heap.size + 1, 1, none⟩ cv') := Fr.trans' (hr.mono (fun _ _ e => .inl e)) hB (fun _ _ e => .inr e)
  refine ⟨h1.res.keep g1 (fun e => e.elim (hne h1.res) (by omega)), ?_, ?_, ?_, ?_, ?_, ?_, ?_⟩
  · have := o3.set 1 cv'
    exact this
  · exact own_keep h1.toks g1 (fun k hk e => e.elim (hne2 k hk) (fun e => by subst e; exact own_ne h1.toks hk h1.out (by intro cs e; cases e)))
  · have : w3.ownsRow w0.heap.size 3 1 cv' ((C ++ [(J, J + j)]).length * 2) (spanCells (C ++ [(J, J + j)])) := by
      rw [spanCells_snoc, List.length_append, Nat.add_mul]
      exact hown
    exact own_keep this hB (fun k hk e => by subst e; exact own_ne this hk o3 (by intro cs e; cases e))
  · exact Fr.trans' h1.old g1 (fun i hi e => by
      rcases e with e | e
      · have := (own_cells h1.coms e).1; omega
      · omega)
  · have := h.tl; omega
  · rw [List.length_append]; have := h.cl; simp only [List.length_cons, List.length_nil]; omega
  · rw [h.hd, hs, Lx.Scan.com_pre, Lx.Scan.pre_pre, List.append_nil]
end Go.Proofs.YtdchnjijdkgfhaaGreatDoor

namespace Go.Proofs.YtdchnjijdkgfhaaGreatDoor
open Go.RowKit

theorem row4_cells (w : World) (T : TypeId) (x0 x1 x2 x3 : Value) : ∀ (j : Nat) (u : Value), ([x0, x1, x2, x3] : List Value)[j]? = some u → (w.alloc (.cells #[x0, x1, x2, x3] T (0, 0))).cell? ((⟨w.heap.size, 0, none⟩ : Addr).add j) = some u := tok_cells w T #[x0, x1, x2, x3]
theorem row2_cells (w : World) (T : TypeId) (x0 x1 : Value) : ∀ (j : Nat) (u : Value), ([x0, x1] : List Value)[j]? = some u → (w.alloc (.cells #[x0, x1] T (0, 0))).cell? ((⟨w.heap.size, 0, none⟩ : Addr).add j) = some u := tok_cells w T #[x0, x1]

theorem row4_at {w : World} {b : Nat} (hb : b = w.heap.size) (T : TypeId) (x0 x1 x2 x3 : Value) : ∀ (j : Nat) (u : Value), ([x0, x1, x2, x3] : List Value)[j]? = some u → (w.alloc (.cells #[x0, x1, x2, x3] T (0, 0))).cell? ((⟨b, 0, none⟩ : Addr).add j) = some u := by
  subst hb
  exact row4_cells w T x0 x1 x2 x3
theorem row2_at {w : World} {b : Nat} (hb : b = w.heap.size) (T : TypeId) (x0 x1 : Value) : ∀ (j : Nat) (u : Value), ([x0, x1] : List Value)[j]? = some u → (w.alloc (.cells #[x0, x1] T (0, 0))).cell? ((⟨b, 0, none⟩ : Addr).add j) = some u := by
  subst hb
  exact row2_cells w T x0 x1

set_option maxRecDepth 100000 in
set_option maxHeartbeats 4000000 in
theorem uptoR_ok (s : ByteArray) (hs : s.size ≤ 140737488355328) (most : Nat) (hm : most ≤ 400000) (hle : s.size ≤ most) (w : World) :
    Calls Tryz.prog 12 #[.string s, .int .i64 most] w fun e w' => UptoPost w (Lx.scan (rest s 0) 0) e w' := by
  obtain ⟨X, hX⟩ : ∃ X, Lx.scan (rest s 0) 0 = X := ⟨_, rfl⟩
  rw [hX]
  have HX := Lib.hid hX
  have HS := Lib.hid hs
  have HM := Lib.hid hm
  have HL := Lib.hid hle
  have hd0 : decide ((most : Int) < (s.size : Int)) = false := by simp only [decide_eq_false_iff_not]; omega
  have hd0' : decide (most < s.size) = false := by simp only [decide_eq_false_iff_not]; omega
  clear hX
  go_enter Tryz.func12, Tryz.ntmps12
  go_wp2_with fail
  go_loopg [6] s.size (fun g x wr => ∃ (J : Nat) (ts : List Lx.Tok) (C : List (Nat × Nat)) (lv cv : Value), g = s.size - J ∧ J ≤ s.size ∧ x = .int .i64 J ∧ UpAt w s J ts C lv cv wr)
  case atStart =>
    refine ⟨0, [], [], .slice none 0 0, .slice none 0 0, rfl, Nat.zero_le _, rfl, ?_⟩
    exact ⟨(Blk.new w _ _).alloc _, Blk.new' (by simp) _ _, tkR_nil _ _, cmR_nil _ _, ((Old.refl w).alloc _).alloc _, Nat.le_refl _, Nat.le_refl _, (Lx.Scan.pre_nil _).symm⟩
  case round =>
    obtain ⟨J, ts, C, lv, cv, hgk, hJs, rfl, hU⟩ := hrel
    have HG := Lib.hid hgk
    obtain ⟨la, lc, rfl⟩ := own_slice hU.toks
    obtain ⟨ca, cc, rfl⟩ := own_slice hU.coms
    have HU := Lib.hid hU
    have HJs := Lib.hid hJs
    clear hgk hd0 hd0' hm hle hs
    have hw1 : wrap64 ((J : Int) + 1) = (J : Int) + 1 := IntWalk.wrap64_in _ (by have := HS.out; omega)
    have hw2 : wrap64 ((J : Int) + 2) = (J : Int) + 2 := IntWalk.wrap64_in _ (by have := HS.out; omega)
    by_cases hJ : J < s.size
    · have hdJ : decide ((J : Int) < (s.size : Int)) = true := by simp only [decide_eq_true_eq]; omega
      have hdN : decide (J < s.size) = true := by simp only [decide_eq_true_eq]; omega
      have hlJ : (J : Int) < (s.size : Int) := by omega
      cases hsp : Lx.space s[J]
      · have HSP := Lib.hid hsp
        clear hsp
        have hgo : (decide ((J : Int) + 1 < (s.size : Int)) = false ∧ Lx.begins (rest s J) = false) ∨ (J + 1 < s.size ∧ decide ((J : Int) + 1 < (s.size : Int)) = true ∧ Lx.begins (rest s J) = ((s.extract J (J + 2)).toList == ([40, 42] : List UInt8))) := by
          by_cases h1 : J + 1 < s.size
          · exact .inr ⟨h1, by simp only [decide_eq_true_eq]; omega, begins_at h1⟩
          · exact .inl ⟨by simp only [decide_eq_false_iff_not]; omega, begins_short h1⟩
        cases hbg : Lx.begins (rest s J)
        · cases hN : Lx.next (rest s J) with
          | err x =>
            have HN := Lib.hid hN
            have hst : Hid (X = .err J x) := Lib.hid (by
              rw [← HX.out, hU.hd, scan_tok_at hJ HSP.out hbg, hN]; rfl)
            have hx0 : (x == 0) = false := by rw [beq_eq_false_iff_ne]; rintro rfl; exact Lx.next_err0 hN
            have hx1 : (x != 0) = true := bne_iff_ne.2 (beq_eq_false_iff_ne.1 hx0)
            have hgo2 : decide ((J : Int) + 1 < (s.size : Int)) = false ∨ (J + 1 < s.size ∧ decide ((J : Int) + 1 < (s.size : Int)) = true ∧ ((s.extract J (J + 2)).toList == ([40, 42] : List UInt8)) = false) := hgo.imp (fun h => h.1) (fun h => ⟨h.1, h.2.1, by rw [← h.2.2]; exact hbg⟩)
            clear hN hgo hbg hU
            rcases hgo2 with hd1 | ⟨h1J, hd1, hE⟩
            all_goals
              go_wp2_with fail
              refine (spaceR_is HSP _).mono ?_
              rintro e w1 ⟨rfl, rfl⟩
              go_wp2_with fail
              (with_reducible refine (readR_at s HS.out J hJ HN _).mono ?_)
              rw [readV]
              rintro e w2 ⟨rfl, hO⟩
              have hU2 := HU.out.keep hO (Nat.le_refl J) rfl
              obtain ⟨r0, r1, r2, r3, g0, g1, g2, g3⟩ := hU2.res.four
              have hlt2 := hU2.res.lt
              clear hU2
              go_wp2
              refine bodyPost_ret (v := .agg #[.slice none 0 0, .slice none 0 0, .int .i64 J, .int .i64 x]) (by simp [results, Tryz.results12, go_sem, r0, r1, r2, r3, hlt2]) rfl ?_
              rw [hst.out]
              exact ⟨_, _, rfl, tkR_nil _ _, cmR_nil _ _, ((HU.out.old.trans hO).set4 (Nat.le_refl _) _ _ _ _).alloc _⟩
          | tok k n j =>
            have HN := Lib.hid hN
            have hjl := Lx.next_len hN
            rw [rest_length] at hjl
            have hj1 : 1 ≤ j := hjl.1
            have hjs : J + j ≤ s.size := by omega
            have hst : Hid (Lx.scan (rest s J) J = (Lx.scan (rest s (J + j)) (J + j)).tok { kind := k, num := n, text := (rest s J).take j, pos := J }) := Lib.hid (by
              rw [scan_tok_at hJ HSP.out hbg, hN])
            obtain ⟨Y, hY⟩ : ∃ Y, s.extract J (J + j) = Y := ⟨_, rfl⟩
            have HY := Lib.hid hY
            have HYt : Hid (Y = ⟨((rest s J).take j).toArray⟩) := Lib.hid (by rw [← hY, extract_eq])
            have hYs : Y.size = j := by rw [← hY]; simp; omega
            have hwj : wrap64 ((J : Int) + (j : Int)) = (J : Int) + (j : Int) := IntWalk.wrap64_in _ (by have := HS.out; omega)
            have hgo2 : decide ((J : Int) + 1 < (s.size : Int)) = false ∨ (J + 1 < s.size ∧ decide ((J : Int) + 1 < (s.size : Int)) = true ∧ ((s.extract J (J + 2)).toList == ([40, 42] : List UInt8)) = false) := hgo.imp (fun h => h.1) (fun h => ⟨h.1, h.2.1, by rw [← h.2.2]; exact hbg⟩)
            clear hN hgo hbg hU hY
            rcases hgo2 with hd1 | ⟨h1J, hd1, hE⟩
            all_goals
              go_wp2_with fail
              refine (spaceR_is HSP _).mono ?_
              rintro e w1 ⟨rfl, rfl⟩
              go_wp2_with fail
              (with_reducible refine (readR_at s HS.out J hJ HN _).mono ?_)
              rw [readV, HY.out]
              rintro e w2 ⟨rfl, hO⟩
              have hU2 := HU.out.keep hO (Nat.le_refl J) rfl
              obtain ⟨i0, hi, hz0, hz1, hz2⟩ := info_parts infoTok
              have hlt2 := hU2.out.lt
              have o0 := (hU2.out.alloc (.cells #[.int .i64 k, .int .i64 n, .string Y, .int .i64 J] 41 (0, 0))).cell (i := 0) rfl
              have hB : w.heap.size ≤ w2.heap.size := by omega
              have htl : ts.length ≤ 400000 := by have := hU2.tl; have := HM.out; have := HL.out; omega
              have hne : ¬ w2.heap.size = w.heap.size + 1 := by omega
              have hne' : ¬ w.heap.size + 1 = w2.heap.size := by omega
              have HU2 := Lib.hid hU2
              clear hU2
              go_wp2_with (first
                | (at_builtin; refine wpList_append_own _ rfl _ _ 23 rfl w.heap.size 41 i0 (.agg #[.int .i64 0, .int .i64 0, .string ⟨#[]⟩, .int .i64 0]) 4 40 Tryz.underlying23 hi hz0 hz1 hz2 rfl (by decide) _ _ _ rfl ((HU2.out.toks.alloc _).alloc _) ⟨w2.heap.size + 1, 0, none⟩ 1 1 [.int .i64 k, .int .i64 n, .string Y, .int .i64 J] rfl rfl (row4_at (by simp) _ _ _ _ _) (by intro u hu; simp at hu; rcases hu with rfl | rfl | rfl | rfl <;> rfl) (by unfold maxLen; omega) (by omega) (by simp; omega) ?_; intro v' w4 hown hgrow hnil
                   have F4 : Fr (fun q => Value.ownBlock (.slice la ts.length lc) = some q) w2 w4 := (((Fr.refl _ w2).alloc _).alloc _).grown hgrow (fun q e _ => e)
                   have F5 : Fr (fun q => Value.ownBlock (.slice la ts.length lc) = some q) (w2.alloc (.cells #[.int .i64 k, .int .i64 n, .string Y, .int .i64 J] 41 (0, 0))) w4 := ((Fr.refl _ _).alloc _).grown hgrow (fun q e _ => e)
                   have o4 := HU2.out.out.keep F4 (fun e => own_ne HU2.out.toks e HU2.out.out (by intro cs e; cases e))
                   have t4 := (Blk.new w2 #[.int .i64 k, .int .i64 n, .string Y, .int .i64 J] 41).keep F5 (fun e => absurd (own_lt HU2.out.toks e) (Nat.lt_irrefl _))
                   obtain ⟨d0, d1, d2, d3, q0, q1, q2, q3⟩ := o4.four
                   obtain ⟨y0, y1, y2, y3, -⟩ := t4.four
                   obtain ⟨g', cap', hv'⟩ := own_form hown
                   subst hv'
                   clear hgrow hnil F5 o4 t4)
                | fail)
              go_roundg (s.size - (J + j))
              case measure => have := HG.out; omega
              case rel => exact ⟨J + j, ts ++ [{ kind := k, num := n, text := (rest s J).take j, pos := J }], C, _, _, rfl, hjs, congrArg (Value.int .i64) (by omega), HU.out.tok hO hj1 F4 (HYt.out ▸ hown) hst.out⟩
        · have hgo2 : J + 1 < s.size ∧ decide ((J : Int) + 1 < (s.size : Int)) = true ∧ ((s.extract J (J + 2)).toList == ([40, 42] : List UInt8)) = true := by
            rcases hgo with h | h
            · rw [h.2] at hbg; cases hbg
            · exact ⟨h.1, h.2.1, by rw [← h.2.2]; exact hbg⟩
          have HB2 := Lib.hid (begins_is_two hbg)
          obtain ⟨h1J, hd1, hE⟩ := hgo2
          cases hN : Lx.comment (rest s J) 0 0 with
          | «open» =>
            have HN := Lib.hid hN
            have hst : Hid (X = .err J 12) := Lib.hid (by
              rw [← HX.out, hU.hd, scan_com_at hJ HSP.out hbg, hN]; rfl)
            clear hN hgo hbg hU
            go_wp2_with fail
            refine (spaceR_is HSP _).mono ?_
            rintro e w1 ⟨rfl, rfl⟩
            go_wp2_with fail
            (with_reducible refine (commentR_is s HS.out J HB2 HN _).mono ?_)
            rw [comV]
            rintro e w2 ⟨rfl, hO⟩
            have hU2 := HU.out.keep hO (Nat.le_refl J) rfl
            obtain ⟨r0, r1, r2, r3, g0, g1, g2, g3⟩ := hU2.res.four
            have hlt2 := hU2.res.lt
            clear hU2
            go_wp2
            refine bodyPost_ret (v := .agg #[.slice none 0 0, .slice none 0 0, .int .i64 J, .int .i64 12]) (by simp [results, Tryz.results12, go_sem, r0, r1, r2, r3, hlt2]) rfl ?_
            rw [hst.out]
            exact ⟨_, _, rfl, tkR_nil _ _, cmR_nil _ _, ((HU.out.old.trans hO).set4 (Nat.le_refl _) _ _ _ _).alloc _⟩
          | deep n =>
            have HN := Lib.hid hN
            have hst : Hid (X = .err (J + n) 6) := Lib.hid (by
              rw [← HX.out, hU.hd, scan_com_at hJ HSP.out hbg, hN]; rfl)
            obtain ⟨q, hq⟩ : ∃ q, J + n = q := ⟨_, rfl⟩
            have Hq := Lib.hid hq
            clear hN hgo hbg hU hq
            go_wp2_with fail
            refine (spaceR_is HSP _).mono ?_
            rintro e w1 ⟨rfl, rfl⟩
            go_wp2_with fail
            (with_reducible refine (commentR_is s HS.out J HB2 HN _).mono ?_)
            rw [comV, Hq.out]
            rintro e w2 ⟨rfl, hO⟩
            have hU2 := HU.out.keep hO (Nat.le_refl J) rfl
            obtain ⟨r0, r1, r2, r3, g0, g1, g2, g3⟩ := hU2.res.four
            have hlt2 := hU2.res.lt
            clear hU2
            go_wp2
            refine bodyPost_ret (v := .agg #[.slice none 0 0, .slice none 0 0, .int .i64 q, .int .i64 6]) (by simp [results, Tryz.results12, go_sem, r0, r1, r2, r3, hlt2]) rfl ?_
            rw [hst.out, Hq.out]
            exact ⟨_, _, rfl, tkR_nil _ _, cmR_nil _ _, ((HU.out.old.trans hO).set4 (Nat.le_refl _) _ _ _ _).alloc _⟩
          | closed n =>
            have HN := Lib.hid hN
            have hjl := Lx.comment_le _ _ _ _ hN
            rw [rest_length] at hjl
            have hj1 : 1 ≤ n := by omega
            have hjs : J + n ≤ s.size := by omega
            have hst : Hid (Lx.scan (rest s J) J = (Lx.scan (rest s (J + n)) (J + n)).com J (J + n)) := Lib.hid (by
              rw [scan_com_at hJ HSP.out hbg, hN])
            obtain ⟨q, hq⟩ : ∃ q, J + n = q := ⟨_, rfl⟩
            have Hq := Lib.hid hq
            clear hN hgo hbg hU hq hjl
            go_wp2_with fail
            refine (spaceR_is HSP _).mono ?_
            rintro e w1 ⟨rfl, rfl⟩
            go_wp2_with fail
            (with_reducible refine (commentR_is s HS.out J HB2 HN _).mono ?_)
            rw [comV, Hq.out]
            rintro e w2 ⟨rfl, hO⟩
            have hU2 := HU.out.keep hO (Nat.le_refl J) rfl
            obtain ⟨i0, hi, hz0, hz1, hz2⟩ := info_parts infoInt
            have hlt2 := hU2.out.lt
            have o1 := (hU2.out.alloc (.cells #[.int .i64 q, .int .i64 0, .int .i64 0] 66 (0, 0))).cell (i := 1) rfl
            have hB : w.heap.size ≤ w2.heap.size := by omega
            have hcl : C.length ≤ 400000 := by have := hU2.cl; have := HM.out; have := HL.out; omega
            have hne : ¬ w2.heap.size = w.heap.size + 1 := by omega
            have hne' : ¬ w.heap.size + 1 = w2.heap.size := by omega
            have HU2 := Lib.hid hU2
            clear hU2
            go_wp2_with (first
              | (at_builtin; refine wpList_append_own _ rfl _ _ 27 rfl w.heap.size 3 i0 (.int .i64 0) 1 8 Tryz.underlying27 hi hz0 hz1 hz2 rfl (by decide) _ _ _ rfl ((HU2.out.coms.alloc _).alloc _) ⟨w2.heap.size + 1, 0, none⟩ 2 2 [.int .i64 J, .int .i64 q] rfl rfl (row2_at (by simp) _ _ _) (by intro u hu; simp at hu; rcases hu with rfl | rfl <;> rfl) (by unfold maxLen; omega) (by omega) (by simp; omega) ?_; intro v' w4 hown hgrow hnil
                 have F4 : Fr (fun q => Value.ownBlock (.slice ca (C.length * 2) cc) = some q) w2 w4 := (((Fr.refl _ w2).alloc _).alloc _).grown hgrow (fun q e _ => e)
                 have F5 : Fr (fun q => Value.ownBlock (.slice ca (C.length * 2) cc) = some q) (w2.alloc (.cells #[.int .i64 q, .int .i64 0, .int .i64 0] 66 (0, 0))) w4 := ((Fr.refl _ _).alloc _).grown hgrow (fun q e _ => e)
                 have o4 := HU2.out.out.keep F4 (fun e => own_ne HU2.out.coms e HU2.out.out (by intro cs e; cases e))
                 have t4 := (Blk.new w2 #[.int .i64 q, .int .i64 0, .int .i64 0] 66).keep F5 (fun e => absurd (own_lt HU2.out.coms e) (Nat.lt_irrefl _))
                 obtain ⟨d0, d1, d2, d3, q0, q1, q2, q3⟩ := o4.four
                 have y0 := t4.cell (i := 0) rfl
                 obtain ⟨g', cap', hv'⟩ := own_form (n := C.length * 2 + 1) hown
                 subst hv'
                 clear hgrow hnil F5 o4 t4)
              | fail)
            go_roundg (s.size - (J + n))
            case measure => have := HG.out; omega
            case rel => exact ⟨J + n, ts, C ++ [(J, J + n)], _, _, rfl, hjs, congrArg (Value.int .i64) (by rw [Hq.out]), HU.out.com hO hj1 F4 (by rw [Hq.out]; exact hown) hst.out⟩
      · have HSP := Lib.hid hsp
        have hst := Lib.hid (scan_space_at hJ hsp)
        clear hsp hU
        go_wp2_with fail
        refine (spaceR_is HSP _).mono ?_
        rintro e w1 ⟨rfl, rfl⟩
        go_wp2
        go_roundg (s.size - (J + 1))
        case measure => have := HG.out; omega
        case rel => exact ⟨J + 1, ts, C, _, _, rfl, hJ, congrArg (Value.int .i64) (by omega), HU.out.keep (Old.refl _) (by omega) hst.out⟩
    · have hdJ : decide ((J : Int) < (s.size : Int)) = false := by simp only [decide_eq_false_iff_not]; omega
      have hdN : decide (J < s.size) = false := by simp only [decide_eq_false_iff_not]; omega
      have hnil : Hid (X = .ok ts C) := Lib.hid (by
        rw [← HX.out, hU.hd, rest_end (by omega), Lx.scan_nil]
        simp [Lx.Scan.pre])
      obtain ⟨o0, o1, o2, o3, -⟩ := hU.out.four
      obtain ⟨r0, r1, r2, r3, g0, g1, g2, g3⟩ := hU.res.four
      have hlt := hU.out.lt
      clear hU
      go_wp2
      refine bodyPost_ret (v := .agg #[.slice la ts.length lc, .slice ca (C.length * 2) cc, .int .i64 0, .int .i64 0]) (by simp [results, Tryz.results12, go_sem, r0, r1, r2, r3]) rfl ?_
      rw [hnil.out]
      exact ⟨_, _, rfl, HU.out.done _ _ _ _⟩
end Go.Proofs.YtdchnjijdkgfhaaGreatDoor

namespace Go.Proofs.YtdchnjijdkgfhaaGreatDoor
open Go.RowKit

set_option maxRecDepth 100000 in
set_option maxHeartbeats 1000000 in
theorem uptoR_long (s : ByteArray) (most : Nat) (hle : most < s.size) (w : World) :
    Calls Tryz.prog 12 #[.string s, .int .i64 most] w fun e w' => UptoPost w (.err 0 2) e w' := by
  have hd0 : decide ((most : Int) < (s.size : Int)) = true := by simp only [decide_eq_true_eq]; omega
  have hd1 : decide (most < s.size) = true := by simp only [decide_eq_true_eq]; omega
  clear hle
  go_enter Tryz.func12, Tryz.ntmps12
  go_wp2
  refine bodyPost_ret (v := .agg #[.slice none 0 0, .slice none 0 0, .int .i64 0, .int .i64 2]) (by simp [results, Tryz.results12, go_sem]) rfl ?_
  exact ⟨_, _, rfl, tkR_nil _ _, cmR_nil _ _, (Old.refl w).alloc _⟩

theorem uptoR_any (s : ByteArray) (hs : s.size ≤ 140737488355328) (most : Nat) (hm : most ≤ 400000) (w : World) :
    Calls Tryz.prog 12 #[.string s, .int .i64 most] w fun e w' => UptoPost w (Lx.upto s.data.toList most) e w' := by
  have hlen : s.data.toList.length = s.size := by rw [Array.length_toList]; rfl
  unfold Lx.upto
  rw [hlen]
  split
  · exact uptoR_long s most (by omega) w
  · exact uptoR_ok s hs most hm (by omega) w

theorem own_down {w : World} {base base' : Nat} {e : TypeId} {size : Nat} {v : Value} {n : Nat} {xs : List Value} (h : w.ownsRow base e size v n xs) (hb : base' ≤ base) : w.ownsRow base' e size v n xs := by
  obtain ⟨h1, h2⟩ := h
  refine ⟨h1, ?_⟩
  rcases h2 with h2 | ⟨g, cap, cur, hv, hg, r⟩
  · exact .inl h2
  · exact .inr ⟨g, cap, cur, hv, Nat.le_trans hb hg, r⟩
theorem TkR.form {w : World} {b : Nat} {v : Value} {L : List Lx.Tok} (h : TkR w b v L) : ∃ la lc, v = .slice la L.length lc ∧ TlAt w la (L.map rt) := by
  obtain ⟨_, h2⟩ := h
  rcases h2 with ⟨h2, h0⟩ | ⟨g, cap, cur, hv, hg, hh, h3, h4, h5, h6⟩
  · refine ⟨none, 0, by rw [h2, h0], fun i hi => ?_⟩
    rw [List.length_map] at hi
    omega
  · refine ⟨_, _, hv, fun i hi => ?_⟩
    have hi' : i < L.length := by rw [List.length_map] at hi; exact hi
    have hs := tokCells_at L i hi'
    have hb : ∀ k, k < L.length * 4 → cur[k]? = (tokCells L)[k]? := fun k hk => by
      rw [← h6, List.getElem?_take_of_lt hk, Array.getElem?_toList]
    have hc : ∀ k v, cur[k]? = some v → w.cell? ⟨g, 0 + k, none⟩ = some v := fun k v hk => by simp [World.cell?, hh, hk]
    refine ⟨g, 0, rfl, lt_of_block hh, ?_, ?_, ?_, ?_⟩
    · rw [List.getElem_map]; exact hc _ _ ((hb _ (by omega)).trans hs.1)
    · rw [List.getElem_map]; exact hc _ _ ((hb _ (by omega)).trans hs.2.1)
    · rw [List.getElem_map]; exact hc _ _ ((hb _ (by omega)).trans hs.2.2.1)
    · rw [List.getElem_map]; exact hc _ _ ((hb _ (by omega)).trans hs.2.2.2)
theorem uptoR_int (s : ByteArray) (hs : s.size ≤ 140737488355328) (n : Int) (most : Nat) (hn : n = (most : Int)) (hm : most ≤ 400000) {r : Lx.Scan} (hr : Hid (Lx.upto s.data.toList most = r)) (w : World) :
    Calls Tryz.prog 12 #[.string s, .int .i64 n] w fun e w' => UptoPost w r e w' := by
  subst hn
  rw [← hr.out]
  exact uptoR_any s hs most hm w

set_option maxRecDepth 100000 in
set_option maxHeartbeats 1000000 in
theorem scanR_any (s : ByteArray) (hs : s.size ≤ 140737488355328) (w : World) :
    Calls Tryz.prog 8 #[.string s] w fun e w' => UptoPost w (Lx.upto s.data.toList 20000) e w' := by
  obtain ⟨r, hr⟩ : ∃ r, Lx.upto s.data.toList 20000 = r := ⟨_, rfl⟩
  rw [hr]
  have HR := Lib.hid hr
  clear hr
  go_enter Tryz.func8, Tryz.ntmps8
  go_wp2_with fail
  (with_reducible refine (uptoR_int s hs _ 20000 (by decide) (by decide) HR _).mono ?_)
  rintro e w1 ⟨lv, cv, rfl, hT, hC, hO⟩
  have kR := (Blk.new w #[.slice none 0 0, .slice none 0 0, .int .i64 0, .int .i64 0] 29).keep hO (fun e => e)
  obtain ⟨r0, r1, r2, r3, g0, g1, g2, g3⟩ := kR.four
  obtain ⟨la, lc, rfl⟩ := own_slice hT
  obtain ⟨ca, cc, rfl⟩ := own_slice hC
  rw [World.size_alloc] at hT hC
  have HT := Lib.hid hT
  have HC := Lib.hid hC
  clear hT hC
  obtain ⟨a, ha⟩ : ∃ a, r.at_ = a := ⟨_, rfl⟩
  obtain ⟨c, hc⟩ : ∃ c, r.code = c := ⟨_, rfl⟩
  obtain ⟨n, hn⟩ : ∃ n, r.toks.length = n := ⟨_, rfl⟩
  obtain ⟨m, hm⟩ : ∃ m, r.coms.length * 2 = m := ⟨_, rfl⟩
  rw [ha, hc]
  rw [hn, hm]
  have H1 : Hid (r.at_ = a ∧ r.code = c ∧ r.toks.length = n ∧ r.coms.length * 2 = m) := Lib.hid ⟨ha, hc, hn, hm⟩
  clear ha hc hn hm
  go_wp2
  refine bodyPost_ret (v := .agg #[.slice la n lc, .slice ca m cc, .int .i64 a, .int .i64 c]) (by simp [results, Tryz.results8, go_sem, r0, r1, r2, r3]) rfl ?_
  obtain ⟨rfl, rfl, rfl, rfl⟩ := H1.out
  have hB : But w.heap.size w1 ((((w1.setCell ⟨w.heap.size, 0, none⟩ (.slice la r.toks.length lc)).setCell ⟨w.heap.size, 1, none⟩ (.slice ca (r.coms.length * 2) cc)).setCell ⟨w.heap.size, 2, none⟩ (.int .i64 r.at_)).setCell ⟨w.heap.size, 3, none⟩ (.int .i64 r.code)) :=
    ((((But.refl _ w1).setCell ⟨w.heap.size, 0, none⟩ (fun _ => rfl) _).setCell ⟨w.heap.size, 1, none⟩ (fun _ => rfl) _).setCell ⟨w.heap.size, 2, none⟩ (fun _ => rfl) _).setCell ⟨w.heap.size, 3, none⟩ (fun _ => rfl) _
  exact ⟨_, _, rfl, own_down (own_keep HT.out hB (fun k hk e => by have := (own_cells HT.out hk).1; omega)) (Nat.le_succ _), own_down (own_keep HC.out hB (fun k hk e => by have := (own_cells HC.out hk).1; omega)) (Nat.le_succ _), (((Old.refl w).alloc _).trans hO).set4 (Nat.le_refl _) _ _ _ _⟩
end Go.Proofs.YtdchnjijdkgfhaaGreatDoor

namespace Go.Proofs.YtdchnjijdkgfhaaGreatDoor
open Go.RowKit

def stripRV (t : ByteArray) : Lx.Scan → Value
  | .ok _ C => .agg #[.string ⟨(Lx.strip t.data.toList C).toArray⟩, .int .i64 0, .int .i64 0]
  | .err p e => .agg #[.string ⟨#[]⟩, .int .i64 p, .int .i64 e]

theorem scanR_err (s : ByteArray) (hs : s.size ≤ 140737488355328) {p : Nat} {x : Int} (hr : Hid (Lx.upto s.data.toList 20000 = .err p x)) (w : World) :
    Calls Tryz.prog 8 #[.string s] w fun e w' => ∃ la lc ca cc, e = .returned (.agg #[.slice la 0 lc, .slice ca 0 cc, .int .i64 p, .int .i64 x]) ∧ Old w w' := by
  refine (scanR_any s hs w).mono ?_
  intro e w' h
  rw [hr.out] at h
  obtain ⟨lv, cv, rfl, hT, hC, hO⟩ := h
  obtain ⟨la, lc, rfl⟩ := own_slice hT
  obtain ⟨ca, cc, rfl⟩ := own_slice hC
  exact ⟨la, lc, ca, cc, rfl, hO⟩
theorem scanR_ok (s : ByteArray) (hs : s.size ≤ 140737488355328) {ts : List Lx.Tok} {C : List (Nat × Nat)} (hr : Hid (Lx.upto s.data.toList 20000 = .ok ts C)) (w : World) :
    Calls Tryz.prog 8 #[.string s] w fun e w' => ∃ la lc ca cc, e = .returned (.agg #[.slice la ts.length lc, .slice ca (C.length * 2) cc, .int .i64 0, .int .i64 0]) ∧ TlAt w' la (ts.map rt) ∧ CmR w' w.heap.size (.slice ca (C.length * 2) cc) C ∧ Old w w' := by
  refine (scanR_any s hs w).mono ?_
  intro e w' h
  rw [hr.out] at h
  obtain ⟨lv, cv, rfl, hT, hC, hO⟩ := h
  obtain ⟨la, lc, rfl, hL⟩ := hT.form
  obtain ⟨ca, cc, rfl⟩ := own_slice hC
  exact ⟨la, lc, ca, cc, rfl, hL, hC, hO⟩

theorem But.cells {W0 wr wz : World} {D g i : Nat} {v : Value} (hF : But (D + 1) W0 wr) (hF2 : But (D + 1) W0 wz) (hg : g < D) (hD : D < W0.heap.size) (h : wr.cell? ⟨g, i, none⟩ = some v) : wz.cell? ⟨g, i, none⟩ = some v ∧ g < wz.heap.size := by
  have h1 : wz.heap[g]? = W0.heap[g]? := hF2.block g (by omega) (by omega)
  have h2 : wr.heap[g]? = W0.heap[g]? := hF.block g (by omega) (by omega)
  exact ⟨(World.cell?_of_block (h1.trans h2.symm)).trans h, by have := hF2.size; omega⟩
theorem wrap_small {j r t : Nat} (h1 : j ≤ r) (h2 : r ≤ t) (h3 : t ≤ 20000) : wrap64 ((j : Int) + 1) = (j : Int) + 1 := IntWalk.wrap64_in _ (by omega)
theorem ne10 {ch : UInt8} (h : ch ≠ 10) : ((ch.toNat : Int) != 10) = true := by
  simp only [bne_iff_ne, ne_eq]
  intro e
  exact h (UInt8.toNat_inj.1 (by have : (10 : UInt8).toNat = 10 := rfl; omega))
theorem sub_is {p n j r : Nat} (h : p + n = j) (h1 : ¬ j < r) (h2 : j ≤ r) : r - p = n := by omega
theorem meas_lt {j r g : Nat} (h : j < r) (hg : g = r - j) : r - (j + 1) < g := by omega
theorem Fr.set3 {S : Nat → Prop} {a w : World} (h : Fr S a w) {n : Nat} (hn : a.heap.size ≤ n) (v0 v1 v2 : Value) :
    Fr S a (((w.setCell ⟨n, 0, none⟩ v0).setCell ⟨n, 1, none⟩ v1).setCell ⟨n, 2, none⟩ v2) :=
  ((h.setCell ⟨n, 0, none⟩ (fun e => absurd e (Nat.not_lt.2 hn)) v0).setCell ⟨n, 1, none⟩ (fun e => absurd e (Nat.not_lt.2 hn)) v1).setCell ⟨n, 2, none⟩ (fun e => absurd e (Nat.not_lt.2 hn)) v2

/-- The ends of comments that lie in a row of one's own. -/
theorem CmR.get {w : World} {b : Nat} {la : Option Addr} {n lc : Nat} {L : List (Nat × Nat)} (h : CmR w b (.slice la n lc) L) (i : Nat) (hi : i < L.length) :
    ∃ g, la = some ⟨g, 0, none⟩ ∧ g < w.heap.size ∧ w.cell? ⟨g, i * 2, none⟩ = some (.int .i64 L[i].1) ∧ w.cell? ⟨g, i * 2 + 1, none⟩ = some (.int .i64 L[i].2) := by
  obtain ⟨_, h2⟩ := h
  rcases h2 with ⟨h2, h0⟩ | ⟨g, cap, cur, hv, hg, hh, h3, h4, h5, h6⟩
  · omega
  · cases hv
    have hs := spanCells_at L i hi
    have hb : ∀ k, k < L.length * 2 → cur[k]? = (spanCells L)[k]? := fun k hk => by
      rw [← h6, List.getElem?_take_of_lt (by omega), Array.getElem?_toList]
    have hc : ∀ k v, cur[k]? = some v → w.cell? ⟨g, k, none⟩ = some v := fun k v hk => by simp [World.cell?, hh, hk]
    exact ⟨g, rfl, lt_of_block hh, hc _ _ ((hb _ (by omega)).trans hs.1), hc _ _ ((hb _ (by omega)).trans hs.2)⟩

set_option maxRecDepth 100000 in
set_option maxHeartbeats 1000000 in
theorem stripR_err (t : ByteArray) (ht : t.size ≤ 140737488355328) (w : World) {p : Nat} {x : Int} (hr : Hid (Lx.upto t.data.toList 20000 = .err p x)) (hx : (x != 0) = true) :
    Calls Tryz.prog 10 #[.string t] w fun e w' => e = .returned (.agg #[.string ⟨#[]⟩, .int .i64 p, .int .i64 x]) ∧ Old w w' := by
  go_enter Tryz.func10, Tryz.ntmps10
  go_wp2_with fail
  (with_reducible refine (scanR_err t ht hr _).mono ?_)
  rintro e w1 ⟨la, lc, ca, cc, rfl, hO⟩
  have kR := (Blk.new w #[.string ⟨#[]⟩, .int .i64 0, .int .i64 0] 34).keep hO (fun e => e)
  have r0 := kR.cell (i := 0) rfl
  have r1 := kR.cell (i := 1) rfl
  have r2 := kR.cell (i := 2) rfl
  have g0 := kR.free 0
  have g1 := kR.free 1
  have g2 := kR.free 2
  have hlt := kR.lt
  have hne : ¬ w.heap.size = w1.heap.size := by omega
  have hne' : ¬ w1.heap.size = w.heap.size := by omega
  go_wp2
  refine bodyPost_ret (v := .agg #[.string ⟨#[]⟩, .int .i64 p, .int .i64 x]) (by simp [results, Tryz.results10, go_sem, r0, r1, r2, hlt]) rfl ⟨rfl, ?_⟩
  first | exact ((((Old.refl w).alloc _).trans hO).set3 (Nat.le_refl _) _ _ _).alloc _ | exact ((((Old.refl w).alloc _).trans hO).alloc _).set3 (Nat.le_refl _) _ _ _

set_option maxRecDepth 100000 in
set_option maxHeartbeats 4000000 in
theorem stripR_ok (t : ByteArray) (ht : t.size ≤ 20000) (w : World) {ts : List Lx.Tok} {C : List (Nat × Nat)} (hr : Hid (Lx.upto t.data.toList 20000 = .ok ts C)) (hbd : Hid (∀ c ∈ C, c.1 < c.2 ∧ c.2 ≤ t.size)) (hcl : C.length ≤ 20000) :
    Calls Tryz.prog 10 #[.string t] w fun e w' => e = .returned (.agg #[.string ⟨(Lx.strip t.data.toList C).toArray⟩, .int .i64 0, .int .i64 0]) ∧ Old w w' := by
  have hlen : t.data.toList.length = t.size := by rw [Array.length_toList]; rfl
  have HLEN := Lib.hid hlen
  have HT := Lib.hid ht
  have HCL := Lib.hid hcl
  clear hlen
  obtain ⟨m, hm⟩ : ∃ m, C.length * 2 = m := ⟨_, rfl⟩
  have HM := Lib.hid hm
  clear hm
  have hcv := fun w => run_bytes_of_string (P := Tryz.prog) w 9 53 5 t Tryz.underlying9 Tryz.underlying53 Tryz.underlying5
  go_enter Tryz.func10, Tryz.ntmps10
  go_wp2_with fail
  (with_reducible refine (scanR_ok t (by omega) hr _).mono ?_)
  rw [HM.out]
  rintro e w1 ⟨la, lc, ca, cc, rfl, hT, hC, hO⟩
  have kR := (Blk.new w #[.string ⟨#[]⟩, .int .i64 0, .int .i64 0] 34).keep hO (fun e => e)
  have hlt := kR.lt
  have kX := Blk.new w1 #[.slice la ts.length lc, .slice ca m cc, .int .i64 0, .int .i64 0] 29
  have O1 : Old w (w1.alloc (.cells #[.slice la ts.length lc, .slice ca m cc, .int .i64 0, .int .i64 0] 29 (0, 0))) := (((Old.refl w).alloc _).trans hO).alloc _
  have kR2 := kR.alloc (.cells #[.slice la ts.length lc, .slice ca m cc, .int .i64 0, .int .i64 0] 29 (0, 0))
  have hC2 := World.ownsRow.alloc hC (.cells #[.slice la ts.length lc, .slice ca m cc, .int .i64 0, .int .i64 0] 29 (0, 0))
  have hcap : t.size ≤ grownCap (w1.alloc (.cells #[.slice la ts.length lc, .slice ca m cc, .int .i64 0, .int .i64 0] 29 (0, 0))) t.size 0 5 := grownCap_ge _ _ _ _
  have hBn := byt_new (w1.alloc (.cells #[.slice la ts.length lc, .slice ca m cc, .int .i64 0, .int .i64 0] 29 (0, 0))) t _ hcap
  rw [World.size_alloc] at hBn
  have hown : Hid (∀ k, Value.ownBlock (.slice ca m cc) = some k → k < w1.heap.size) := Lib.hid (fun k hk => own_lt hC hk)
  clear hT hC
  go_wp2_with fail
  obtain ⟨cap, hcp⟩ : ∃ cap, grownCap (w1.alloc (.cells #[.slice la ts.length lc, .slice ca m cc, .int .i64 0, .int .i64 0] 29 (0, 0))) t.size 0 5 = cap := ⟨_, rfl⟩
  rw [hcp] at hcap hBn ⊢
  have hOW : Old (w1.alloc (.cells #[.slice la ts.length lc, .slice ca m cc, .int .i64 0, .int .i64 0] 29 (0, 0))) (((w1.alloc (.cells #[.slice la ts.length lc, .slice ca m cc, .int .i64 0, .int .i64 0] 29 (0, 0))).alloc (.cells (bytesRow t cap) 5 ((bytesRow t cap).size, (bytesRow t cap).size + 1))).drew) := ((Old.refl _).alloc _).drew
  generalize (((w1.alloc (.cells #[.slice la ts.length lc, .slice ca m cc, .int .i64 0, .int .i64 0] 29 (0, 0))).alloc (.cells (bytesRow t cap) 5 ((bytesRow t cap).size, (bytesRow t cap).size + 1))).drew) = W0 at hBn hOW ⊢
  have kX0 := kX.keep hOW (fun e => e)
  have kR0 := kR2.keep hOW (fun e => e)
  have hC0 : CmR W0 _ (.slice ca m cc) C := own_keep hC2 hOW (fun _ _ e => e)
  have O0 := O1.trans hOW
  have KX := Lib.hid kX0
  have KR := Lib.hid kR0
  have KC := Lib.hid hC0
  have KB := Lib.hid hBn
  have KO := Lib.hid O0
  have KCAP := Lib.hid hcap
  clear kX kR kR2 hC2 hcap hOW kX0 kR0 hC0 hBn O0 O1 hcv hcp hO
  go_loopg [5] C.length (fun g x wr => ∃ c i : Nat, g = C.length - c ∧ c ≤ C.length ∧ c * 2 = i ∧ x = .int .i64 i ∧ Byt wr (w1.heap.size + 1) (Lx.strip t.data.toList (C.take c)) ∧ But (w1.heap.size + 1) W0 wr)
  case atStart => exact ⟨0, 0, rfl, Nat.zero_le _, rfl, rfl, KB.out, But.refl _ _⟩
  case round =>
    obtain ⟨c, i, hgk, hc, hci, rfl, hB, hF⟩ := hrel
    have HG := Lib.hid hgk
    have HCI := Lib.hid hci
    have kX := KX.out.keep hF (show ¬ w1.heap.size = w1.heap.size + 1 by omega)
    have kC : CmR wr _ (.slice ca m cc) C := own_keep KC.out hF (fun k hk e => by have := hown.out k hk; omega)
    have x1 := kX.cell (i := 1) rfl
    have hw1 : wrap64 ((i : Int) + 1) = (i : Int) + 1 := IntWalk.wrap64_in _ (by have := HCL.out; omega)
    have hw2 : wrap64 ((i : Int) + 2) = (i : Int) + 2 := IntWalk.wrap64_in _ (by have := HCL.out; omega)
    clear hgk
    by_cases hlt' : c < C.length
    · have hd : decide ((i : Int) + 1 < (m : Int)) = true := by simp only [decide_eq_true_eq]; have := HM.out; omega
      have hi1 : (i : Int) < (m : Int) := by have := HM.out; omega
      have hi2 : (i : Int) + 1 < (m : Int) := by have := HM.out; omega
      have hi3 : 0 ≤ (i : Int) + 1 := by omega
      have hi4 : ((i : Int) + 1).toNat = i + 1 := by omega
      obtain ⟨g, rfl, hgl, y0, y1⟩ := kC.get c hlt'
      have hcb := hbd.out C[c] (List.getElem_mem hlt')
      have HSn := Lib.hid (Lx.strip_snoc t.data.toList (C.take c) C[c])
      rw [List.take_append_getElem hlt'] at HSn
      obtain ⟨p, hp⟩ : ∃ p, C[c].1 = p := ⟨_, rfl⟩
      obtain ⟨r, hr'⟩ : ∃ r, C[c].2 = r := ⟨_, rfl⟩
      rw [hp] at y0 hcb HSn
      rw [hr'] at y1 hcb HSn
      rw [hci] at y0 y1
      obtain ⟨hpr, hrs⟩ := hcb
      have HPR := Lib.hid hpr
      have HRS := Lib.hid hrs
      have hgB : Hid (g < w1.heap.size) := Lib.hid (hown.out g rfl)
      have hlb : Hid ((Lx.strip t.data.toList (C.take c)).length = t.size) := Lib.hid (by rw [Lx.strip_length, HLEN.out])
      obtain ⟨S, hS⟩ : ∃ S, Lx.strip t.data.toList (C.take c) = S := ⟨_, rfl⟩
      rw [hS] at HSn hB hlb
      clear hp hr' hci kX kC hS hpr hrs
      go_wp2_with fail
      go_loopg [6] (r - p) (fun g x wz => ∃ j n : Nat, g = r - j ∧ p + n = j ∧ j ≤ r ∧ x = .int .i64 j ∧ Byt wz (w1.heap.size + 1) (Lx.blank S p n) ∧ But (w1.heap.size + 1) W0 wz)
      case atStart => exact ⟨p, 0, rfl, rfl, by have := HPR.out; omega, rfl, by rw [Lx.blank_zero]; exact hB, hF⟩
      case round =>
        rename World => wz
        obtain ⟨j, n, hgk, hjn, hjr, rfl, hB2, hF2⟩ := hrel
        have HG2 := Lib.hid hgk
        have HJN := Lib.hid hjn
        clear hgk
        have kX := KX.out.keep hF2 (show ¬ w1.heap.size = w1.heap.size + 1 by omega)
        have x1 := kX.cell (i := 1) rfl
        obtain ⟨z1, hglz⟩ := hF.cells hF2 hgB.out KX.out.lt y1
        have hwj := wrap_small hjr HRS.out HT.out
        clear kX
        by_cases hjl : j < r
        · have hdj : decide ((j : Int) < (r : Int)) = true := decide_eq_true (Int.ofNat_lt.2 hjl)
          have hdn : decide (j < r) = true := decide_eq_true hjl
          have hjS : p + n < S.length := by rw [hlb.out, hjn]; exact Nat.lt_of_lt_of_le hjl HRS.out
          have hjtn : j < t.size := Nat.lt_of_lt_of_le hjl HRS.out
          have hjt : (j : Int) < (t.size : Int) := Int.ofNat_lt.2 hjtn
          have HJL := Lib.hid hjl
          obtain ⟨c0, f0⟩ := hB2.at_ (p + n) (by rw [Lx.blank_length]; exact hjS)
          rw [Lx.blank_same S p n hjS] at c0
          have HN := Lib.hid (Lx.blank_next S p n hjS)
          have HJS : Hid (p + n < (Lx.blank S p n).length) := Lib.hid (by rw [Lx.blank_length]; exact hjS)
          obtain ⟨ch, hch⟩ : ∃ ch, S[p + n] = ch := ⟨_, rfl⟩
          rw [hch] at c0 HN
          rw [hjn] at c0 f0
          clear hch hjn
          by_cases h10 : ch = 10
          · have hcd : ((ch.toNat : Int) != 10) = false := by subst h10; rfl
            rw [if_pos h10] at HN
            clear h10 hjS hlt hjl hjr ht hcl
            go_wp2
            go_roundg (r - (j + 1))
            case measure => exact meas_lt HJL.out HG2.out
            case rel => exact ⟨j + 1, n + 1, rfl, congrArg (· + 1) HJN.out, HJL.out, by first | rfl | (rw [hwj]; rfl), by rw [HN.out]; exact hB2, hF2⟩
          · have hcd : ((ch.toNat : Int) != 10) = true := ne10 h10
            rw [if_neg h10] at HN
            clear h10 hjS hlt hjl hjr ht hcl
            go_wp2
            go_roundg (r - (j + 1))
            case measure => exact meas_lt HJL.out HG2.out
            case rel => exact ⟨j + 1, n + 1, rfl, congrArg (· + 1) HJN.out, HJL.out, by first | rfl | (rw [hwj]; rfl), by rw [HN.out, ← HJN.out]; exact hB2.set (p + n) HJS.out 32, hF2.setCell ⟨w1.heap.size + 1, j, none⟩ (fun _ => rfl) _⟩
        · have hdj : decide ((j : Int) < (r : Int)) = false := decide_eq_false (fun e => hjl (Int.ofNat_lt.1 e))
          have hdn : decide (j < r) = false := decide_eq_false hjl
          have hn : Hid (r - p = n) := Lib.hid (sub_is hjn hjl hjr)
          have HLT := Lib.hid hlt'
          clear hjn hjl hjr
          go_wp2
          go_roundg (C.length - (c + 1))
          case measure => exact meas_lt HLT.out HG.out
          case rel => exact ⟨c + 1, i + 2, rfl, HLT.out, by rw [Nat.add_mul, HCI.out], by first | rfl | (rw [hw2]; rfl), by rw [HSn.out, hn.out]; exact hB2, hF2⟩
    · have hd : decide ((i : Int) + 1 < (m : Int)) = false := by simp only [decide_eq_false_iff_not]; have := HM.out; omega
      have hcc : c = C.length := by omega
      subst hcc
      rw [List.take_length] at hB
      have hl2 : (Lx.strip t.data.toList C).length = t.size := by rw [Lx.strip_length, HLEN.out]
      have hbk := run_convert_bytes_back (P := Tryz.prog) wr 53 9 5 ⟨w1.heap.size + 1, 0, none⟩ cap (Lx.strip t.data.toList C) Tryz.underlying53 Tryz.underlying5 Tryz.underlying9 (fun j hj => by
        have := (hB.at_ j hj).1
        have e : (⟨w1.heap.size + 1, 0, none⟩ : Addr).add j = ⟨w1.heap.size + 1, j, none⟩ := by
          cases j with
          | zero => rfl
          | succ j => simp [Addr.add]
        rw [e]; exact this)
      rw [hl2] at hbk
      have kR := KR.out.keep hF (show ¬ w.heap.size = w1.heap.size + 1 by omega)
      have r0 := kR.cell (i := 0) rfl
      have r1 := kR.cell (i := 1) rfl
      have r2 := kR.cell (i := 2) rfl
      have g0 := kR.free 0
      have g1 := kR.free 1
      have g2 := kR.free 2
      have OF : Old w wr := Fr.trans' KO.out hF (fun k hk e => by omega)
      clear kX kC kR hci hl2 hlt'
      go_wp2
      refine bodyPost_ret (v := .agg #[.string ⟨(Lx.strip t.data.toList C).toArray⟩, .int .i64 0, .int .i64 0]) (by simp [results, Tryz.results10, go_sem, r0, r1, r2]) rfl ⟨rfl, ?_⟩
      exact OF.set3 (Nat.le_refl _) _ _ _
/-- The text that is left of one without its comments. -/
def stripS (t : ByteArray) : Lx.Scan → ByteArray
  | .ok _ C => ⟨(Lx.strip t.data.toList C).toArray⟩
  | .err _ _ => ⟨#[]⟩
theorem stripV_uni (t : ByteArray) (r : Lx.Scan) : stripV t r = .tuple #[.string (stripS t r), .int .i64 r.at_, .int .i64 r.code] := by cases r <;> rfl

theorem upto_err_code {l : List UInt8} {m p : Nat} {x : Int} (h : Lx.upto l m = .err p x) : (x != 0) = true := by
  unfold Lx.upto at h
  split at h
  · cases h; rfl
  · have := scan_code _ _ _ _ _ h
    simpa using this

theorem coms_count : ∀ (f : Nat) (l : List UInt8) (p : Nat) (ts : List Lx.Tok) (cs : List (Nat × Nat)), Lx.scanF f l p = .ok ts cs → cs.length ≤ l.length := by
  intro f
  induction f with
  | zero =>
    intro l p ts cs h
    cases l with
    | nil => rw [Lx.scanF_nil] at h; cases h; simp
    | cons x r => simp only [Lx.scanF] at h; cases h; simp
  | succ f ih =>
    intro l p ts cs h
    cases l with
    | nil => rw [Lx.scanF_nil] at h; cases h; simp
    | cons x r =>
      rw [Lx.scanF] at h
      split at h
      · have := ih _ _ _ _ h
        simp only [List.length_cons]
        omega
      · split at h
        · split at h
          · rename_i n hcm
            have hcl := Lx.comment_le _ _ _ _ hcm
            cases hs : Lx.scanF f ((x :: r).drop n) (p + n) with
            | err a e => rw [hs] at h; cases h
            | ok ts' cs' =>
              rw [hs] at h
              simp only [Lx.Scan.com, Lx.Scan.ok.injEq] at h
              obtain ⟨rfl, rfl⟩ := h
              have := ih _ _ _ _ hs
              rw [List.length_drop] at this
              simp only [List.length_cons] at *
              omega
          · cases h
          · cases h
        · split at h
          · rename_i k n j hnx
            cases hs : Lx.scanF f ((x :: r).drop j) (p + j) with
            | err a e => rw [hs] at h; cases h
            | ok ts' cs' =>
              rw [hs] at h
              simp only [Lx.Scan.tok, Lx.Scan.ok.injEq] at h
              obtain ⟨rfl, rfl⟩ := h
              have := ih _ _ _ _ hs
              rw [List.length_drop] at this
              omega
          · cases h

theorem stripR_any (t : ByteArray) (ht : t.size ≤ 140737488355328) (w : World) {r : Lx.Scan} (hr : Hid (Lx.upto t.data.toList 20000 = r)) :
    Calls Tryz.prog 10 #[.string t] w fun e w' => e = .returned (.agg #[.string (stripS t r), .int .i64 r.at_, .int .i64 r.code]) ∧ Old w w' := by
  have hlen : t.data.toList.length = t.size := by rw [Array.length_toList]; rfl
  cases r with
  | err p x => exact stripR_err t ht w hr (upto_err_code hr.out)
  | ok ts C =>
    have h := hr.out
    unfold Lx.upto at h
    split at h
    · cases h
    · have hb := coms_bound (t := t) (ts := ts) (C := C) (by rw [rest_zero]; exact h)
      have hc := coms_count _ _ _ _ _ h
      exact stripR_ok t (by omega) w hr (Lib.hid hb) (by omega)
end Go.Proofs.YtdchnjijdkgfhaaGreatDoor
