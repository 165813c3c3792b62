/- Comments: the scanner passes over one, and those within it. -/
import Derived.Test.YtdchnjijdkgfhaaGreatDoorBegins
import Derived.Deep.RegionLaw
namespace Go.Proofs.YtdchnjijdkgfhaaGreatDoor
open Go.RowKit

theorem two_true {l : List UInt8} {x y : UInt8} (h : two l x y = true) : ∃ r, l = x :: y :: r := by
  unfold two Lib.hasPrefix at h
  rw [List.isPrefixOf_iff_prefix] at h
  obtain ⟨r, hr⟩ := h
  exact ⟨r, hr.symm⟩

theorem comment_open {l : List UInt8} (h : two l 40 42 = true) {k : Nat} (hk : k ≠ 100) (n : Nat) : Lx.comment l k n = Lx.comment (l.drop 2) (k + 1) (n + 2) := by
  obtain ⟨r, rfl⟩ := two_true h
  rw [Lx.comment, if_neg hk]
  rfl
theorem comment_deep {l : List UInt8} (h : two l 40 42 = true) (n : Nat) : Lx.comment l 100 n = .deep n := by
  obtain ⟨r, rfl⟩ := two_true h
  rw [Lx.comment, if_pos rfl]
theorem comment_close {l : List UInt8} (h : two l 42 41 = true) (k n : Nat) : Lx.comment l k n = if k ≤ 1 then .closed (n + 2) else Lx.comment (l.drop 2) (k - 1) (n + 2) := by
  obtain ⟨r, rfl⟩ := two_true h
  rw [Lx.comment]
  rfl
theorem comment_skip {c : UInt8} {r : List UInt8} (h1 : two (c :: r) 40 42 = false) (h2 : two (c :: r) 42 41 = false) (k n : Nat) : Lx.comment (c :: r) k n = Lx.comment r k (n + 1) := by
  rw [Lx.comment]
  · rintro r' hc hr
    rw [hc, hr] at h1
    simp [two, Lib.hasPrefix] at h1
  · rintro r' hc hr
    rw [hc, hr] at h2
    simp [two, Lib.hasPrefix] at h2
theorem comment_end (k n : Nat) : Lx.comment [] k n = .open := by rw [Lx.comment]

/-- Where a comment stands when n of its bytes are passed. -/
def ComRel (l : List UInt8) (n k : Nat) : Prop := k ≤ 100 ∧ (0 < k ∨ n = 0) ∧ Lx.comment l 0 0 = Lx.comment (l.drop n) k n
/-- .. and when it is closed. -/
def ComEnd (l : List UInt8) (n k : Nat) : Prop := k = 0 ∧ 0 < n ∧ Lx.comment l 0 0 = .closed n

/-- The cells of a list of comments. -/
def spanCells (L : List (Nat × Nat)) : List Value := L.flatMap fun x => [.int .i64 x.1, .int .i64 x.2]
theorem spanCells_length (L : List (Nat × Nat)) : (spanCells L).length = L.length * 2 := by
  induction L with
  | nil => rfl
  | cons x r ih =>
    show (([Value.int .i64 x.1, .int .i64 x.2] : List Value) ++ spanCells r).length = _
    rw [List.length_append, ih]
    simp only [List.length_cons, List.length_nil]
    omega
theorem spanCells_snoc (L : List (Nat × Nat)) (a c : Nat) : spanCells (L ++ [(a, c)]) = spanCells L ++ [.int .i64 a, .int .i64 c] := by
  unfold spanCells
  rw [List.flatMap_append]
  rfl
/-- The scanner's comments: a slice of its own, made since the scanner was. -/
def Cm (w : World) (b : Nat) (v : Value) (L : List (Nat × Nat)) : Prop := w.ownsRow (b + 1) 62 2 v L.length (spanCells L)

theorem Cm.keep {S : Nat → Prop} {w w' : World} {b : Nat} {v : Value} {L : List (Nat × Nat)} (h : Cm w b v L) (hf : Fr S w w') (hn : ∀ k, v.ownBlock = some k → ¬ S k) : Cm w' b v L := by
  obtain ⟨h1, h2⟩ := h
  refine ⟨h1, ?_⟩
  rcases h2 with h2 | ⟨g, cap, cur, hv, hg, hh, r⟩
  · exact Or.inl h2
  · subst hv
    exact Or.inr ⟨g, cap, cur, rfl, hg, hf.heap hh (hn g rfl), r⟩
theorem Cm.ge {w : World} {b : Nat} {v : Value} {L : List (Nat × Nat)} (h : Cm w b v L) {k : Nat} (hk : v.ownBlock = some k) : b + 1 ≤ k := by
  obtain ⟨_, h2⟩ := h
  rcases h2 with ⟨h2, _⟩ | ⟨g, cap, cur, hv, hg, _⟩
  · subst h2; cases hk
  · subst hv
    cases hk
    exact hg
theorem Cm.cells {w : World} {b : Nat} {v : Value} {L : List (Nat × Nat)} (h : Cm w b v L) {k : Nat} (hk : v.ownBlock = some k) : ∃ cs, w.heap[k]? = some (.cells cs 62 (0, 0)) := by
  obtain ⟨_, h2⟩ := h
  rcases h2 with ⟨h2, _⟩ | ⟨g, cap, cur, hv, hg, hh, _⟩
  · subst h2; cases hk
  · subst hv
    cases hk
    exact ⟨_, hh⟩
theorem Cm.but {w w' : World} {b : Nat} {v : Value} {L : List (Nat × Nat)} (h : Cm w b v L) (hf : But b w w') : Cm w' b v L :=
  h.keep hf (fun k hk e => by have := h.ge hk; omega)
theorem Cm.old {w w' : World} {b : Nat} {v : Value} {L : List (Nat × Nat)} (h : Cm w b v L) (hf : Old w w') : Cm w' b v L := h.keep hf (fun _ _ e => e)

theorem St.com {w : World} {b : Nat} {t : ByteArray} {p : Nat} {v : Value} (h : St w b t p v) : w.cell? ⟨b, 9, none⟩ = some v := let ⟨_, h, _, h3⟩ := h; h.cell (i := 7) h3

theorem step_append_own {P : Program} {ops : Array Oper} {o : Oper} {a : Act} {w : World} {K : Act → World → Prop} {Q : Exit → Act → World → Prop} {E : Prop}
    (hg : o.guard = none) (s x : Operand) (t : TypeId) (hop : o.op = Op.call { callee := Callee.builtin Builtin.append, args := #[s, x], argTypes := #[t, t] })
    (base : Nat) (e : TypeId) (i : TypeInfo) (z : Value) (size bytes : Nat) (h1 : P.underlying t = some (.slice e)) (h2 : P.info? e = some i) (h3 : i.zero = some z) (h4 : i.size = size) (h5 : i.bytes = bytes) (h6 : z.cells.size = size) (h7 : 0 < size)
    (v : Value) (n : Nat) (xs : List Value) (hs : a.eval s = v) (hown : w.ownsRow base e size v n xs)
    (ad : Addr) (m c : Nat) (news : List Value) (hx : a.eval x = .slice (some ad) m c) (hn : news.length = m * size) (hc : ∀ j u, news[j]? = some u → w.cell? (ad.add j) = some u) (h1c : ∀ u ∈ news, u.oneCell' = true)
    (b1 : n + m ≤ maxLen) (b2 : (n + m) * bytes ≤ 140737488355328) (hbase : base ≤ w.heap.size)
    (hK : ∀ v' w', w'.ownsRow base e size v' (n + m) (xs ++ news) → w.grownBy w' v.ownBlock → K (a.put o.dst v') w') :
    if Region.wanted o (yielded ops a.tmps) = true then Oper.wp P o a w K Q else E := by
  have hw : Region.wanted o (yielded ops a.tmps) = true := by simp [Region.wanted, hg]
  rw [if_pos hw]
  exact wp_append_own w s x t hop base e i z size bytes h1 h2 h3 h4 h5 h6 h7 v n xs hs hown ad m c news hx hn hc h1c b1 b2 hbase (fun v' w' r1 r2 _ => hK v' w' r1 r2)

theorem infoSpan : (Tryz.prog.info? 62).map (fun i => (i.zero, i.size, i.bytes)) = some (some (.agg #[.int .i64 0, .int .i64 0]), 2, 16) := by kernel_rfl

theorem St.putCom {w : World} {b : Nat} {t : ByteArray} {p : Nat} {v : Value} (h : St w b t p v) (u : Value) : St (w.setCell ⟨b, 9, none⟩ u) b t p u := by
  obtain ⟨r, h1, h2, h3⟩ := h
  have hw := h2.but h1 ((But.refl b w).setCell ⟨b, 9, none⟩ (fun _ => rfl) u)
  refine ⟨r.setIfInBounds 7 u, h1.put 7 u, ⟨by rw [Array.size_setIfInBounds]; exact h2.size, fun i hi => ?_⟩, ?_⟩
  · rw [Array.getElem?_setIfInBounds_ne (by omega)]
    exact hw.at_ i hi
  · rw [Array.getElem?_setIfInBounds_self_of_lt (by rw [h2.size]; omega)]

theorem news_cells (w : World) (T : TypeId) (l : Array Value) : ∀ (j : Nat) (u : Value), l.toList[j]? = some u → ((w.alloc (.cells l T (0, 0))).drew).cell? ((⟨w.heap.size, 0, none⟩ : Addr).add j) = some u := by
  intro j u hj
  have h : Blk ((w.alloc (.cells l T (0, 0))).drew) w.heap.size l T := (Blk.new w l T).drew
  have e : (⟨w.heap.size, 0, none⟩ : Addr).add j = ⟨w.heap.size, j, none⟩ := by
    cases j with
    | zero => rfl
    | succ j => simp [Addr.add]
  rw [e]
  exact h.cell (i := j) (v := u) (by simpa using hj)

theorem own_form {w : World} {base : Nat} {e : TypeId} {size : Nat} {v : Value} {n : Nat} {xs : List Value} (h : w.ownsRow base e size v (n + 1) xs) : ∃ g cap, v = .slice (some ⟨g, 0, none⟩) (n + 1) cap := by
  obtain ⟨_, h2⟩ := h
  rcases h2 with ⟨_, h2⟩ | ⟨g, cap, cur, hv, _⟩
  · omega
  · exact ⟨g, cap, hv⟩

/-- The blocks that a scanner in block b may change: its own, and its comments'. -/
def SpanS (b : Nat) (w : World) (k : Nat) : Prop := k = b ∨ (b < k ∧ ∃ cs f, w.heap[k]? = some (.cells cs 62 f))
abbrev Frc (b : Nat) (w w' : World) : Prop := Fr (SpanS b w) w w'

theorem Frc.trans {b : Nat} {w w1 w2 : World} (h : Frc b w w1) (k : Frc b w1 w2) : Frc b w w2 :=
  Fr.trans' h k (fun i hi hs => by
    rcases hs with e | ⟨hb, cs, f, hc⟩
    · exact .inl e
    · by_cases hS : SpanS b w i
      · exact hS
      · rw [h.block i hi hS] at hc
        exact .inr ⟨hb, cs, f, hc⟩)
theorem But.frc {b : Nat} {w w' : World} (h : But b w w') : Frc b w w' := h.mono (fun _ _ e => .inl e)
theorem Old.frc {w w' : World} (h : Old w w') (b : Nat) : Frc b w w' := Fr.old h
theorem Frc.below {b : Nat} {w w' : World} (h : Frc b w w') (hb : b ≤ w.heap.size) : Below b w w' :=
  Fr.below h hb (fun k e => by rcases e with e | ⟨e, _⟩ <;> omega)
/-- A block that is neither the scanner's nor of spans lies as it lay. -/
theorem Frc.heap {b : Nat} {w w' : World} (h : Frc b w w') {k : Nat} {o : Obj} (hk : w.heap[k]? = some o) (hb : k ≠ b) (ho : ∀ cs f, o ≠ .cells cs 62 f) : w'.heap[k]? = some o :=
  Fr.heap h hk (fun e => by
    rcases e with e | ⟨_, cs, f, hc⟩
    · exact hb e
    · rw [hk] at hc
      exact ho cs f (Option.some.inj hc))
theorem Frc.blk {b : Nat} {w w' : World} (h : Frc b w w') {k : Nat} {cs : Array Value} {T : TypeId} (hk : Blk w k cs T) (hb : k ≠ b) (hT : T ≠ 62) : Blk w' k cs T :=
  Frc.heap h hk hb (fun cs' f e => by cases e; exact hT rfl)

/-- How passing over a comment ends. -/
def ComPost (w : World) (b : Nat) (t : ByteArray) (p : Nat) (v : Value) (L : List (Nat × Nat)) (e : Ending) (w' : World) : Lx.Com → Prop
  | .closed n => e = .returned (.tuple #[]) ∧ ∃ v', St w' b t (p + n) v' ∧ Cm w' b v' (L ++ [(p, p + n)]) ∧ Frc b w w'
  | .open => e = pan p 12 ∧ But b w w'
  | .deep n => e = pan ((p + n : Nat) : Int) 6 ∧ But b w w'

set_option maxRecDepth 100000 in
set_option maxHeartbeats 2000000 in
theorem comment_any (w : World) (b : Nat) (t : ByteArray) (p : Nat) (v : Value) (h : St w b t p v) (L : List (Nat × Nat)) (hL : Cm w b v L) (hlen : L.length ≤ 1000000) (hb0 : Hid (two (rest t p) 40 42 = true)) :
    Calls Tryz.prog 99 #[.pointer (some ⟨b, 0, none⟩)] w fun e w' => ComPost w b t p v L e w' (Lx.comment (rest t p) 0 0) := by
  have hc0 := h.text
  have hc1 := h.pos
  have hs := h.sz
  have hle := h.le
  go_enter Tryz.func99, Tryz.ntmps99
  go_wp2
  go_loopg [3] (t.size - p) (fun g s3 wr => ∃ n k : Nat, g = t.size - (p + n) ∧ s3 = .int .i64 k ∧ St wr b t (p + n) v ∧ But b w wr ∧ (ComRel (rest t p) n k ∨ ComEnd (rest t p) n k))
  case atStart => exact ⟨0, 0, rfl, rfl, h, But.refl b w, .inl ⟨by omega, .inr rfl, rfl⟩⟩
  case round =>
    obtain ⟨n, k, hg, rfl, hS, hF, hR⟩ := hrel
    have HG := Lib.hid hg
    clear hg hc0 hc1
    have q0 := hS.text
    have q1 := hS.pos
    have q2 := hS.free 1
    have hle1 := hS.le
    rcases hR with hR | hR
    · have hdrop : (rest t p).drop n = rest t (p + n) := by unfold rest; rw [List.drop_drop]
      have hk100 := hR.1
      have hC1 := Lib.hid hR.2.2
      rw [hdrop] at hC1
      clear hdrop
      have hk1 : Hid ((((k : Int) > 0) ∧ 0 < k) ∨ (k = 0 ∧ n = 0)) := Lib.hid (by have := hR.2.1; omega)
      clear hR
      by_cases hend : p + n < t.size
      · have hd : Hid (decide (t.size ≤ p + n) = false) := Lib.hid (by simp; omega)
        cases hB : two (rest t (p + n)) 40 42
        · have HB := Lib.hid hB
          clear hB
          have hkp : 0 < (k : Int) := by
            rcases hk1.out with ⟨h1, h2⟩ | ⟨h1, h2⟩
            · exact h1
            · subst h2
              have := HB.out
              rw [Nat.add_zero, hb0.out] at this
              cases this
          have hkp' : 0 < k := by omega
          cases hE : two (rest t (p + n)) 42 41
          · have HE := Lib.hid hE
            clear hE
            go_wp2_with fail
            refine (hS.done hd).mono ?_
            rintro e w1 ⟨rfl, m1, rfl⟩
            go_wp2_with fail
            refine ((hS.drewN _).begins 40 42 HB).mono ?_
            rintro e w1 ⟨rfl, m2, rfl⟩
            go_wp2_with fail
            refine ((hS.drewN _).begins 40 42 HB).mono ?_
            rintro e w1 ⟨rfl, m3, rfl⟩
            go_wp2_with fail
            refine ((hS.drewN _).begins 42 41 HE).mono ?_
            rintro e w1 ⟨rfl, m4, rfl⟩
            have q5 := (hS.drewN (m1 + m2 + m3 + m4)).text
            have q6 := (hS.drewN (m1 + m2 + m3 + m4)).pos
            have q7 := (hS.drewN (m1 + m2 + m3 + m4)).free 1
            go_wp2
            go_roundg (t.size - (p + n + 1))
            case measure => have := HG.out; omega
            case rel =>
              refine ⟨n + 1, k, rfl, rfl, (hS.drewN (m1 + m2 + m3 + m4)).move (p + n + 1) (by omega), (hF.drewN (m1 + m2 + m3 + m4)).setCell ⟨b, 1, none⟩ (fun _ => rfl) _, ?_⟩
              have hdr : rest t (p + n + 1) = (rest t (p + n)).drop 1 := by unfold rest; rw [List.drop_drop]
              have hdr2 : (rest t p).drop (n + 1) = rest t (p + n + 1) := by unfold rest; rw [List.drop_drop, Nat.add_assoc]
              refine .inl ⟨hk100, .inl hkp', ?_⟩
              rw [hC1.out, hdr2]
              have hcons : ∃ c, rest t (p + n) = c :: rest t (p + n + 1) := ⟨t[p + n], by unfold rest; rw [List.drop_eq_getElem_cons (by simpa using hend)]; rfl⟩
              obtain ⟨c, hc⟩ := hcons
              have e1 := HB.out
              have e2 := HE.out
              rw [hc] at e1 e2 ⊢
              exact comment_skip e1 e2 k n
          · have HE := Lib.hid hE
            clear hE
            have hlen2 : p + n + 2 ≤ t.size := by
              obtain ⟨r, hr⟩ := two_true HE.out
              have h1 : (rest t (p + n)).length = t.size - (p + n) := by simp [rest]
              rw [hr] at h1
              simp only [List.length_cons] at h1
              omega
            go_wp2_with fail
            refine (hS.done hd).mono ?_
            rintro e w1 ⟨rfl, m1, rfl⟩
            go_wp2_with fail
            refine ((hS.drewN _).begins 40 42 HB).mono ?_
            rintro e w1 ⟨rfl, m2, rfl⟩
            go_wp2_with fail
            refine ((hS.drewN _).begins 40 42 HB).mono ?_
            rintro e w1 ⟨rfl, m3, rfl⟩
            go_wp2_with fail
            refine ((hS.drewN _).begins 42 41 HE).mono ?_
            rintro e w1 ⟨rfl, m4, rfl⟩
            have q5 := (hS.drewN (m1 + m2 + m3 + m4)).text
            have q6 := (hS.drewN (m1 + m2 + m3 + m4)).pos
            have q7 := (hS.drewN (m1 + m2 + m3 + m4)).free 1
            go_wp2
            go_roundg (t.size - (p + n + 2))
            case measure => have := HG.out; omega
            case rel =>
              refine ⟨n + 2, k - 1, rfl, congrArg (Value.int .i64) (by omega), (hS.drewN (m1 + m2 + m3 + m4)).move (p + n + 2) (by omega), (hF.drewN (m1 + m2 + m3 + m4)).setCell ⟨b, 1, none⟩ (fun _ => rfl) _, ?_⟩
              have hdr : rest t (p + n + 2) = (rest t (p + n)).drop 2 := by unfold rest; rw [List.drop_drop]
              have hdr2 : (rest t p).drop (n + 2) = rest t (p + n + 2) := by unfold rest; rw [List.drop_drop, Nat.add_assoc]
              have hcl := comment_close HE.out k n
              by_cases hk : k = 1
              · refine .inr ⟨by omega, by omega, ?_⟩
                rw [hC1.out, hcl, if_pos (by omega)]
              · refine .inl ⟨by omega, .inl (by omega), ?_⟩
                rw [hC1.out, hcl, if_neg (by omega), hdr2, hdr]
        · have HB := Lib.hid hB
          clear hB
          rcases hk1.out with ⟨hkp, hkp'⟩ | ⟨h1, h2⟩
          · by_cases hk : k = 100
            · subst hk
              go_wp2_with fail
              refine (hS.done hd).mono ?_
              rintro e w1 ⟨rfl, m1, rfl⟩
              go_wp2_with fail
              refine ((hS.drewN _).begins 40 42 HB).mono ?_
              rintro e w1 ⟨rfl, m2, rfl⟩
              have q5 := (hS.drewN (m1 + m2)).text
              have q6 := (hS.drewN (m1 + m2)).pos
              have q7 := (hS.drewN (m1 + m2)).free 1
              go_wp2
              refine ⟨rfl, ?_⟩
              rw [hC1.out, comment_deep HB.out]
              exact ⟨rfl, hF.drewN _⟩
            · have hk' : ((k : Int) == 100) = false := beq_eq_false_iff_ne.2 (by omega)
              have hlen2 : p + n + 2 ≤ t.size := by
                obtain ⟨r, hr⟩ := two_true HB.out
                have h1 : (rest t (p + n)).length = t.size - (p + n) := by simp [rest]
                rw [hr] at h1
                simp only [List.length_cons] at h1
                omega
              go_wp2_with fail
              refine (hS.done hd).mono ?_
              rintro e w1 ⟨rfl, m1, rfl⟩
              go_wp2_with fail
              refine ((hS.drewN _).begins 40 42 HB).mono ?_
              rintro e w1 ⟨rfl, m2, rfl⟩
              go_wp2_with fail
              refine ((hS.drewN _).begins 40 42 HB).mono ?_
              rintro e w1 ⟨rfl, m3, rfl⟩
              have q5 := (hS.drewN (m1 + m2 + m3)).text
              have q6 := (hS.drewN (m1 + m2 + m3)).pos
              have q7 := (hS.drewN (m1 + m2 + m3)).free 1
              go_wp2
              go_roundg (t.size - (p + n + 2))
              case measure => have := HG.out; omega
              case rel =>
                refine ⟨n + 2, k + 1, rfl, rfl, (hS.drewN (m1 + m2 + m3)).move (p + n + 2) (by omega), (hF.drewN (m1 + m2 + m3)).setCell ⟨b, 1, none⟩ (fun _ => rfl) _, ?_⟩
                have hdr : rest t (p + n + 2) = (rest t (p + n)).drop 2 := by unfold rest; rw [List.drop_drop]
                have hdr2 : (rest t p).drop (n + 2) = rest t (p + n + 2) := by unfold rest; rw [List.drop_drop, Nat.add_assoc]
                refine .inl ⟨by omega, .inl (by omega), ?_⟩
                rw [hC1.out, comment_open HB.out (by omega), hdr2, hdr]
          · subst h1
            subst h2
            have hst : (((p + 0 : Nat) : Int) == (p : Int)) = true := beq_iff_eq.2 (by omega)
            have hlen2 : p + 0 + 2 ≤ t.size := by
              obtain ⟨r, hr⟩ := two_true HB.out
              have h1 : (rest t (p + 0)).length = t.size - (p + 0) := by simp [rest]
              rw [hr] at h1
              simp only [List.length_cons] at h1
              omega
            go_wp2_with fail
            refine (hS.done hd).mono ?_
            rintro e w1 ⟨rfl, m1, rfl⟩
            go_wp2_with fail
            refine ((hS.drewN _).begins 40 42 HB).mono ?_
            rintro e w1 ⟨rfl, m2, rfl⟩
            go_wp2_with fail
            refine ((hS.drewN _).begins 40 42 HB).mono ?_
            rintro e w1 ⟨rfl, m3, rfl⟩
            have q5 := (hS.drewN (m1 + m2 + m3)).text
            have q6 := (hS.drewN (m1 + m2 + m3)).pos
            have q7 := (hS.drewN (m1 + m2 + m3)).free 1
            go_wp2
            go_roundg (t.size - (p + 0 + 2))
            case measure => have := HG.out; omega
            case rel =>
              refine ⟨0 + 2, 0 + 1, rfl, rfl, (hS.drewN (m1 + m2 + m3)).move (p + 0 + 2) (by omega), (hF.drewN (m1 + m2 + m3)).setCell ⟨b, 1, none⟩ (fun _ => rfl) _, ?_⟩
              have hdr : rest t (p + 0 + 2) = (rest t (p + 0)).drop 2 := by unfold rest; rw [List.drop_drop]
              have hdr2 : (rest t p).drop (0 + 2) = rest t (p + 0 + 2) := by unfold rest; rw [List.drop_drop, Nat.add_assoc]
              refine .inl ⟨by omega, .inl (by omega), ?_⟩
              rw [hC1.out, comment_open HB.out (by omega), hdr2, hdr]
      · have hd : Hid (decide (t.size ≤ p + n) = true) := Lib.hid (by simp; omega)
        have hkp : 0 < (k : Int) := by
          rcases hk1.out with ⟨h1, h2⟩ | ⟨h1, h2⟩
          · exact h1
          · subst h2
            obtain ⟨r, hr⟩ := two_true hb0.out
            have h1 : (rest t p).length = t.size - p := by simp [rest]
            rw [hr] at h1
            simp only [List.length_cons] at h1
            omega
        go_wp2_with fail
        refine (hS.done hd).mono ?_
        rintro e w1 ⟨rfl, m1, rfl⟩
        go_wp2
        refine ⟨rfl, ?_⟩
        have hnil : rest t (p + n) = [] := by unfold rest; exact List.drop_eq_nil_of_le (by simpa using Nat.not_lt.1 hend)
        rw [hC1.out, hnil, comment_end]
        exact ⟨rfl, hF.drewN _⟩
    · have hk := hR.1
      have hn := hR.2.1
      subst hk
      have e1 : (((p + n : Nat) : Int) == (p : Int)) = false := beq_eq_false_iff_ne.2 (by omega)
      have q3 := hS.com
      have q4 := hS.free 9
      go_wp2
      obtain ⟨i0, hi, hz0, hz1, hz2⟩ := info_parts infoSpan
      have hC : Cm wr b v L := hL.but hF
      have hbw := hS.lt
      have hnb : Hid (¬ v.ownBlock = some b) := Lib.hid (fun e => by have := hC.ge e; omega)
      have hcl : Hid (∀ k, v.ownBlock = some k → ∃ cs T f, wr.heap[k]? = some (.cells cs T f)) := Lib.hid (fun k e => by obtain ⟨cs, hcs⟩ := hC.cells e; exact ⟨cs, _, _, hcs⟩)
      have hbs : ∀ o, b + 1 ≤ ((wr.alloc o).drew).heap.size := fun o => by have := World.size_alloc wr o; show b + 1 ≤ (wr.alloc o).heap.size; omega
      have hc1 := Lib.hid (news_cells wr 62 #[.int .i64 p, .int .i64 ((p : Int) + (n : Int))])
      have hc2 : Hid (∀ u ∈ ([.int .i64 p, .int .i64 ((p : Int) + (n : Int))] : List Value), u.oneCell' = true) := Lib.hid (by intro u hu; simp at hu; rcases hu with rfl | rfl <;> rfl)
      go_region_law (refine step_append_own rfl (.tmp 89) (.tmp 97) 58 rfl (b + 1) 62 i0 (.agg #[.int .i64 0, .int .i64 0]) 2 16 Tryz.underlying58 hi hz0 hz1 hz2 rfl (by decide) v L.length (spanCells L) (by simp [Act.eval, Act.put]) (hC.old ((Old.refl wr).alloc _).drew) ⟨wr.heap.size, 0, none⟩ 1 1 [.int .i64 p, .int .i64 ((p : Int) + (n : Int))] (by simp [Act.eval, Act.put]) rfl hc1.out hc2.out (by unfold maxLen; omega) (by omega) (hbs _) ?_; intro v' w1 hown hgrow; have hF1 := (((Fr.refl (fun k => v.ownBlock = some k) wr).alloc _).drew).grown hgrow (fun k e _ => e); have hS1 := hS.keep hF1 hnb.out hcl.out; have d9 := hS1.com; have f9 := hS1.free 9; have hv := own_form hown; obtain ⟨g, cap, hv⟩ := hv; subst hv)
      all_goals
        go_end0
        rw [hR.2.2]
        refine ⟨rfl, _, hS1.putCom _, ?_, ?_⟩
        · refine Cm.but ?_ ((But.refl b w1).setCell ⟨b, 9, none⟩ (fun _ => rfl) _)
          unfold Cm
          rw [spanCells_snoc, List.length_append, show ((p + n : Nat) : Int) = (p : Int) + (n : Int) from by omega]
          exact hown
        · refine Frc.trans hF.frc (Fr.setCell ?_ ⟨b, 9, none⟩ (fun _ => .inl rfl) _)
          exact hF1.mono (fun k _ e => .inr ⟨by have := hC.ge e; omega, by obtain ⟨cs, hcs⟩ := hC.cells e; exact ⟨cs, _, hcs⟩⟩)
end Go.Proofs.YtdchnjijdkgfhaaGreatDoor
