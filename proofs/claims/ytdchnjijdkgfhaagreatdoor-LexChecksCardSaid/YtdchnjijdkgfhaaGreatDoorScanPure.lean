/- Scans of parts of a text: cut where it goes wrong, or put in front of another one. No program stands here. -/
import Derived.Test.YtdchnjijdkgfhaaGreatDoorNextPure
namespace Lx

theorem com_skip {c d : B} {r : List B} (k n : Nat) (h1 : ¬ (c = 40 ∧ d = 42)) (h2 : ¬ (c = 42 ∧ d = 41)) : comment (c :: d :: r) k n = comment (d :: r) k (n + 1) := by
  rw [comment]
  · rintro r' rfl e; cases e; exact h1 ⟨rfl, rfl⟩
  · rintro r' rfl e; cases e; exact h2 ⟨rfl, rfl⟩
theorem com_one (c : B) (k n : Nat) : comment [c] k n = .open := by
  rw [comment]
  · rw [comment]
  · rintro r' rfl e; cases e
  · rintro r' rfl e; cases e

/-- A comment that is closed, whatever follows. -/
theorem com_closed : ∀ (l : List B) (k n m : Nat), comment l k n = .closed m → ∃ a b, l = a ++ b ∧ n + a.length = m ∧ 2 ≤ a.length ∧ ∀ b', comment (a ++ b') k n = .closed m := by
  intro l k n
  fun_induction comment l k n with
  | case1 r n => intro m h; cases h
  | case2 r k n hk ih =>
    intro m h
    obtain ⟨a, b, rfl, e, _, hb⟩ := ih m h
    exact ⟨40 :: 42 :: a, b, rfl, by simp only [List.length_cons]; omega, by simp, fun b' => by
      show comment (40 :: 42 :: (a ++ b')) k n = _
      rw [comment, if_neg hk]; exact hb b'⟩
  | case3 r k n hk =>
    intro m h
    cases h
    exact ⟨[42, 41], r, rfl, rfl, Nat.le_refl _, fun b' => by
      show comment (42 :: 41 :: b') k n = _
      rw [comment, if_pos hk]⟩
  | case4 r k n hk ih =>
    intro m h
    obtain ⟨a, b, rfl, e, _, hb⟩ := ih m h
    exact ⟨42 :: 41 :: a, b, rfl, by simp only [List.length_cons]; omega, by simp, fun b' => by
      show comment (42 :: 41 :: (a ++ b')) k n = _
      rw [comment, if_neg hk]; exact hb b'⟩
  | case5 c r k n h1 h2 ih =>
    intro m h
    obtain ⟨a, b, rfl, e, h2', hb⟩ := ih m h
    cases a with
    | nil => simp at h2'
    | cons d a =>
      refine ⟨c :: d :: a, b, rfl, by simp only [List.length_cons] at e ⊢; omega, by simp, fun b' => ?_⟩
      show comment (c :: d :: (a ++ b')) k n = _
      rw [com_skip]
      · exact hb b'
      · rintro ⟨rfl, rfl⟩; exact h1 _ rfl rfl
      · rintro ⟨rfl, rfl⟩; exact h2 _ rfl rfl
  | case6 => intro m h; cases h

/-- A comment that is too deep: up to there it is open, whatever follows it is too deep. -/
theorem com_deep : ∀ (l : List B) (k n m : Nat), comment l k n = .deep m → ∃ a b, l = a ++ 40 :: 42 :: b ∧ n + a.length = m ∧ comment a k n = .open ∧ (∀ b', comment (a ++ 40 :: 42 :: b') k n = .deep m) ∧ (k ≠ 100 → a ≠ []) := by
  intro l k n
  fun_induction comment l k n with
  | case1 r n =>
    intro m h
    cases h
    exact ⟨[], r, rfl, rfl, by rw [comment], fun b' => by show comment (40 :: 42 :: b') _ _ = _; rw [comment, if_pos rfl], fun e => absurd rfl e⟩
  | case2 r k n hk ih =>
    intro m h
    obtain ⟨a, b, rfl, e, ho, hb, _⟩ := ih m h
    refine ⟨40 :: 42 :: a, b, rfl, by simp only [List.length_cons]; omega, ?_, fun b' => ?_, fun _ => by simp⟩
    · rw [comment, if_neg hk]; exact ho
    · show comment (40 :: 42 :: (a ++ 40 :: 42 :: b')) k n = _
      rw [comment, if_neg hk]; exact hb b'
  | case3 r k n hk => intro m h; cases h
  | case4 r k n hk ih =>
    intro m h
    obtain ⟨a, b, rfl, e, ho, hb, _⟩ := ih m h
    refine ⟨42 :: 41 :: a, b, rfl, by simp only [List.length_cons]; omega, ?_, fun b' => ?_, fun _ => by simp⟩
    · rw [comment, if_neg hk]; exact ho
    · show comment (42 :: 41 :: (a ++ 40 :: 42 :: b')) k n = _
      rw [comment, if_neg hk]; exact hb b'
  | case5 c r k n h1 h2 ih =>
    intro m h
    obtain ⟨a, b, rfl, e, ho, hb, _⟩ := ih m h
    refine ⟨c :: a, b, rfl, by simp only [List.length_cons]; omega, ?_, fun b' => ?_, fun _ => by simp⟩
    · cases a with
      | nil => exact com_one c k n
      | cons d a =>
        rw [com_skip]
        · exact ho
        · rintro ⟨rfl, rfl⟩; exact h1 _ rfl rfl
        · rintro ⟨rfl, rfl⟩; exact h2 _ rfl rfl
    · cases a with
      | nil =>
        show comment (c :: 40 :: 42 :: b') k n = _
        rw [com_skip]
        · exact hb b'
        · rintro ⟨rfl, e⟩; exact absurd e (by decide)
        · rintro ⟨rfl, e⟩; exact absurd e (by decide)
      | cons d a =>
        show comment (c :: d :: (a ++ 40 :: 42 :: b')) k n = _
        rw [com_skip]
        · exact hb b'
        · rintro ⟨rfl, rfl⟩; exact h1 _ rfl rfl
        · rintro ⟨rfl, rfl⟩; exact h2 _ rfl rfl
  | case6 => intro m h; cases h

theorem begins_app {l : List B} (hl : l ≠ []) (c : B) (r : List B) (hc : c ≠ 42) : begins (l ++ c :: r) = begins l := by
  have hpos := List.length_pos_iff.2 hl
  unfold begins
  rw [app_left hpos]
  rcases Nat.lt_or_ge 1 l.length with h | h
  · rw [app_left h]
  · have e : l.length = 1 := by omega
    have h1 := app_at l c r
    rw [e] at h1
    rw [h1, peek_off (l := l) (n := 1) (by omega)]
    have : decide (c = 42) = false := by simpa using hc
    rw [this]
    rfl
theorem begins_take {l : List B} {m : Nat} (h : begins l = true) (hm : 2 ≤ m) : begins (l.take m) = true := by
  unfold begins at h ⊢
  rw [peek_take, peek_take, if_pos (by omega), if_pos (by omega)]
  exact h
theorem begins_take_no {l : List B} {m : Nat} (h : begins l = false) : begins (l.take m) = false := by
  unfold begins at h ⊢
  rw [peek_take, peek_take]
  by_cases h0 : 0 < m
  · rw [if_pos h0]
    by_cases h1 : 1 < m
    · rw [if_pos h1]; exact h
    · rw [if_neg h1]; simp
  · rw [if_neg h0]; simp
theorem begins_two {l : List B} (h : begins l = true) : ∃ r, l = 40 :: 42 :: r := by
  have h' : peek l 0 = 40 ∧ peek l 1 = 42 := by simpa [begins] using h
  match l, h' with
  | [], h' => exact absurd h'.1 (by decide)
  | [c], h' => exact absurd h'.2 (by show ¬ (0 : B) = 42; decide)
  | c :: d :: r, h' => exact ⟨r, by rw [show c = 40 from h'.1, show d = 42 from h'.2]⟩
theorem begins_space {c : B} (h : space c = true) (r : List B) : begins (c :: r) = false := by
  unfold begins
  rw [peek_cons]
  rcases space_cases h with rfl | rfl | rfl | rfl <;> rfl

theorem com_drop {l : List B} {m : Nat} (h : comment l 0 0 = .closed m) : ∃ a b, l = a ++ b ∧ a.length = m ∧ 2 ≤ m ∧ l.drop m = b ∧ l.take m = a ∧ ∀ b', comment (a ++ b') 0 0 = .closed m := by
  obtain ⟨a, b, rfl, e, h2, hb⟩ := com_closed _ _ _ _ h
  rw [Nat.zero_add] at e
  exact ⟨a, b, rfl, e, by omega, by rw [← e, List.drop_left], by rw [← e, List.take_left], hb⟩

theorem take_len {l : List B} {j : Nat} (h : j ≤ l.length) : (l.take j).length = j := by rw [List.length_take]; omega

/-- What is wrong is wrong at an index of the text; up to there it has tokens, or a comment that is open. -/
theorem scan_wrong : ∀ (m : Nat) (l : List B) (p q : Nat) (e : Int), l.length ≤ m → scan l p = .err q e → ∃ k, q = p + k ∧ k < l.length ∧
    (e = 6 → ∃ f, scan (l.take k) p = .err f 12 ∧ f < q) ∧ (e ≠ 6 → ∃ ts cs, scan (l.take k) p = .ok ts cs ∧ ∀ t ∈ ts, t.pos + t.text.length ≤ q) := by
  intro m
  induction m with
  | zero =>
    intro l p q e hl h
    obtain rfl : l = [] := List.eq_nil_of_length_eq_zero (by omega)
    cases h
  | succ m ih =>
    intro l p q e hl h
    cases l with
    | nil => cases h
    | cons c r =>
      simp only [List.length_cons] at hl
      cases hs : space c
      · cases hb : begins (c :: r)
        · rw [scan_tok hs hb] at h
          cases hn : next (c :: r) with
          | err x =>
            rw [hn] at h
            simp only [Scan.err.injEq] at h
            obtain ⟨rfl, rfl⟩ := h
            refine ⟨0, rfl, by simp, fun e6 => ?_, fun _ => ⟨[], [], rfl, by simp⟩⟩
            exfalso
            subst e6
            by_cases ha : (small (peek (c :: r) 0) || capital (peek (c :: r) 0)) = true
            · rw [next_name ha] at hn
              unfold nextName at hn
              simp only at hn
              split at hn
              · cases hn
              · split at hn
                · cases hn
                · split at hn <;> cases hn
            · have ha' : (small (peek (c :: r) 0) || capital (peek (c :: r) 0)) = false := by simpa using ha
              by_cases hb : peek (c :: r) 0 = 39 ∧ small (peek (c :: r) 1) = true
              · rw [next_var ha' hb.1 hb.2] at hn
                unfold nextVar at hn
                simp only at hn
                split at hn <;> cases hn
              · by_cases hc : peek (c :: r) 0 = 126 ∨ digit (peek (c :: r) 0) = true
                · rw [next_num ha' hb hc] at hn
                  unfold nextNum at hn
                  simp only at hn
                  split at hn
                  · cases hn
                  · split at hn <;> cases hn
                · rw [next_sign ha' hb hc] at hn
                  split at hn
                  · cases hn
                  · split at hn <;> cases hn
          | tok k n j =>
            rw [hn] at h
            simp only at h
            have hj := next_len hn
            cases hsc : scan ((c :: r).drop j) (p + j) with
            | ok ts cs => rw [hsc] at h; cases h
            | err q' e' =>
              rw [hsc] at h
              simp only [Scan.tok, Scan.err.injEq] at h
              obtain ⟨rfl, rfl⟩ := h
              obtain ⟨k', hk, hlt, h6, hn6⟩ := ih _ _ _ _ (by rw [List.length_drop, List.length_cons]; omega) hsc
              rw [List.length_drop] at hlt
              have hnt := next_take (m := j + k') hn (by omega)
              have hpre : ∀ q, scan ((c :: r).take (j + k')) q = (scan (((c :: r).drop j).take k') (q + j)).tok ⟨k, n, (c :: r).take j, q⟩ := fun q => by
                obtain ⟨i, hi⟩ : ∃ i, j + k' = i + 1 := ⟨j + k' - 1, by omega⟩
                rw [hi] at hnt ⊢
                rw [List.take_succ_cons] at hnt ⊢
                rw [scan_tok hs (by rw [← List.take_succ_cons, ]; exact begins_take_no hb), hnt]
                simp only
                rw [← List.take_succ_cons, ← hi, List.drop_take, List.take_take, Nat.min_eq_left (Nat.le_add_right j k'), Nat.add_sub_cancel_left]
              have a1 : q' = p + (j + k') := by omega
              have a2 : j + k' < (c :: r).length := by clear hpre h6 hn6; omega
              refine ⟨j + k', a1, a2, fun e6 => ?_, fun e6 => ?_⟩
              · obtain ⟨f, hf, hfl⟩ := h6 e6
                exact ⟨f, by rw [hpre, hf]; rfl, hfl⟩
              · obtain ⟨ts, cs, hts, hall⟩ := hn6 e6
                refine ⟨_, cs, by rw [hpre, hts]; rfl, fun t ht => ?_⟩
                rcases List.mem_cons.1 ht with rfl | ht
                · show p + ((c :: r).take j).length ≤ _
                  rw [take_len hj.2]; omega
                · exact hall t ht
        · rw [scan_com hs hb] at h
          cases hn : comment (c :: r) 0 0 with
          | closed n =>
            rw [hn] at h
            simp only at h
            obtain ⟨a, b, hab, ha, h2, hd, ht, hcl⟩ := com_drop hn
            cases hsc : scan ((c :: r).drop n) (p + n) with
            | ok ts cs => rw [hsc] at h; cases h
            | err q' e' =>
              rw [hsc] at h
              simp only [Scan.com, Scan.err.injEq] at h
              obtain ⟨rfl, rfl⟩ := h
              obtain ⟨k', hk, hlt, h6, hn6⟩ := ih _ _ _ _ (by rw [List.length_drop, List.length_cons]; omega) hsc
              rw [List.length_drop] at hlt
              have htk : (c :: r).take (n + k') = a ++ b.take k' := by rw [hab, ← ha, List.take_append, List.take_of_length_le (by omega), Nat.add_sub_cancel_left]
              have hpre : ∀ q, scan ((c :: r).take (n + k')) q = (scan (((c :: r).drop n).take k') (q + n)).com q (q + n) := fun q => by
                have hct := hcl (b.take k')
                rw [← htk] at hct
                obtain ⟨i, hi⟩ : ∃ i, n + k' = i + 1 := ⟨n + k' - 1, by omega⟩
                rw [hi] at hct ⊢
                rw [List.take_succ_cons] at hct ⊢
                rw [scan_com hs (by rw [← List.take_succ_cons]; exact begins_take hb (by omega)), hct]
                simp only
                rw [← List.take_succ_cons, ← hi, List.drop_take, Nat.add_sub_cancel_left]
              have a1 : q' = p + (n + k') := by omega
              have a2 : n + k' < (c :: r).length := by clear hpre h6 hn6; omega
              refine ⟨n + k', a1, a2, fun e6 => ?_, fun e6 => ?_⟩
              · obtain ⟨f, hf, hfl⟩ := h6 e6
                exact ⟨f, by rw [hpre, hf]; rfl, hfl⟩
              · obtain ⟨ts, cs, hts, hall⟩ := hn6 e6
                exact ⟨ts, _, by rw [hpre, hts]; rfl, hall⟩
          | «open» =>
            rw [hn] at h
            simp only [Scan.err.injEq] at h
            obtain ⟨rfl, rfl⟩ := h
            exact ⟨0, rfl, by simp, fun e6 => absurd e6 (by decide), fun _ => ⟨[], [], rfl, by simp⟩⟩
          | deep n =>
            rw [hn] at h
            simp only [Scan.err.injEq] at h
            obtain ⟨rfl, rfl⟩ := h
            obtain ⟨a, b, hab, ha, ho, _, hne⟩ := com_deep _ _ _ _ hn
            rw [Nat.zero_add] at ha
            have hne := hne (by decide)
            have htk : (c :: r).take n = a := by rw [hab, ← ha, List.take_left]
            have hlen : n < (c :: r).length := by rw [hab, List.length_append, ← ha]; simp only [List.length_cons]; omega
            refine ⟨n, rfl, hlen, fun _ => ?_, fun e6 => absurd rfl e6⟩
            cases a with
            | nil => exact absurd rfl hne
            | cons d a =>
              have hd : d = c := by rw [List.cons_append, List.cons.injEq] at hab; exact hab.1.symm
              subst hd
              have hn2 : 2 ≤ n := by
                obtain ⟨r', hr⟩ := begins_two hb
                rw [hr] at hab
                cases a with
                | nil =>
                  simp only [List.cons_append, List.nil_append, List.cons.injEq] at hab
                  exact absurd hab.2.1 (by decide)
                | cons _ _ => rw [← ha]; simp
              rw [htk]
              rw [scan_com hs (by rw [← htk]; exact begins_take hb hn2), ho]
              exact ⟨p, rfl, by omega⟩
      · rw [scan_space hs] at h
        obtain ⟨k', hk, hlt, h6, hn6⟩ := ih _ _ _ _ (by omega) h
        have hpre : ∀ q, scan ((c :: r).take (k' + 1)) q = scan (r.take k') (q + 1) := fun q => by rw [List.take_succ_cons, scan_space hs]
        refine ⟨k' + 1, by omega, by simp only [List.length_cons]; omega, fun e6 => ?_, fun e6 => ?_⟩
        · obtain ⟨f, hf, hfl⟩ := h6 e6
          exact ⟨f, by rw [hpre, hf], hfl⟩
        · obtain ⟨ts, cs, hts, hall⟩ := hn6 e6
          exact ⟨ts, cs, by rw [hpre, hts], hall⟩

theorem Scan.com_ok {s : Scan} {a b : Nat} {ts : List Tok} {cs : List (Nat × Nat)} (h : s.com a b = .ok ts cs) : ∃ cs', s = .ok ts cs' ∧ cs = (a, b) :: cs' := by
  cases s with
  | ok ts' cs' => cases h; exact ⟨cs', rfl, rfl⟩
  | err _ _ => cases h
theorem Scan.tok_ok {s : Scan} {t : Tok} {ts : List Tok} {cs : List (Nat × Nat)} (h : s.tok t = .ok ts cs) : ∃ ts', s = .ok ts' cs ∧ ts = t :: ts' := by
  cases s with
  | ok ts' cs' => cases h; exact ⟨ts', rfl, rfl⟩
  | err _ _ => cases h
theorem Scan.com_err {s : Scan} {a b : Nat} {q : Nat} {e : Int} (h : s.com a b = .err q e) : s = .err q e := by
  cases s with
  | ok ts' cs' => cases h
  | err _ _ => exact h
theorem Scan.tok_err {s : Scan} {t : Tok} {q : Nat} {e : Int} (h : s.tok t = .err q e) : s = .err q e := by
  cases s with
  | ok ts' cs' => cases h
  | err _ _ => exact h

/-- In front of a space a text has the tokens that it has alone. -/
theorem scan_before : ∀ (m : Nat) (l : List B) (p : Nat) (c : B) (r : List B), l.length ≤ m → space c = true →
    (∀ ts cs, scan l p = .ok ts cs → scan (l ++ c :: r) p = (scan r (p + l.length + 1)).pre ts cs) ∧
    (∀ q e, scan l p = .err q e → e ≠ 12 → scan (l ++ c :: r) p = .err q e) := by
  intro m
  induction m with
  | zero =>
    intro l p c r hl hc
    obtain rfl : l = [] := List.eq_nil_of_length_eq_zero (by omega)
    refine ⟨fun ts cs h => ?_, fun q e h => by cases h⟩
    cases h
    rw [List.nil_append, scan_space hc, Scan.pre_nil]
    rfl
  | succ m ih =>
    intro l p c r hl hc
    cases l with
    | nil =>
      refine ⟨fun ts cs h => ?_, fun q e h => by cases h⟩
      cases h
      rw [List.nil_append, scan_space hc, Scan.pre_nil]
      rfl
    | cons d l =>
      simp only [List.length_cons] at hl
      have hc42 : c ≠ 42 := by rintro rfl; exact absurd hc (by decide)
      cases hs : space d
      · cases hb : begins (d :: l)
        · have hb' : begins (d :: (l ++ c :: r)) = false := by have := begins_app (l := d :: l) (by simp) c r hc42; rw [hb] at this; exact this
          have hna : next (d :: (l ++ c :: r)) = next (d :: l) := next_app (l := d :: l) (by simp) c r (dull_space hc)
          rw [List.cons_append, scan_tok hs hb, scan_tok hs hb', hna]
          cases hn : next (d :: l) with
          | err x => exact ⟨fun ts cs h => (by cases h), fun q e h _ => h⟩
          | tok k n j =>
            have hj := next_len hn
            have hdr : (d :: (l ++ c :: r)).drop j = (d :: l).drop j ++ c :: r := by rw [← List.cons_append, List.drop_append_of_le_length hj.2]
            have htk : (d :: (l ++ c :: r)).take j = (d :: l).take j := by rw [← List.cons_append, List.take_append_of_le_length hj.2]
            obtain ⟨i1, i2⟩ := ih ((d :: l).drop j) (p + j) c r (by rw [List.length_drop, List.length_cons]; omega) hc
            simp only
            rw [hdr, htk]
            refine ⟨fun ts cs h => ?_, fun q e h he => ?_⟩
            · obtain ⟨ts', h', rfl⟩ := Scan.tok_ok h
              rw [i1 ts' cs h', Scan.tok_pre, Scan.pre_pre]
              congr 2
              rw [List.length_drop]; omega
            · rw [i2 q e (Scan.tok_err h) he]; rfl
        · have hb' : begins (d :: (l ++ c :: r)) = true := by have := begins_app (l := d :: l) (by simp) c r hc42; rw [hb] at this; exact this
          rw [List.cons_append, scan_com hs hb, scan_com hs hb']
          cases hn : comment (d :: l) 0 0 with
          | closed n =>
            obtain ⟨a, b, hab, ha, h2, hd, ht, hcl⟩ := com_drop hn
            have hct : comment (d :: (l ++ c :: r)) 0 0 = .closed n := by rw [← List.cons_append, hab, List.append_assoc]; exact hcl _
            have hln : n ≤ (d :: l).length := by rw [hab, List.length_append]; omega
            have hdr : (d :: (l ++ c :: r)).drop n = (d :: l).drop n ++ c :: r := by rw [← List.cons_append, List.drop_append_of_le_length hln]
            obtain ⟨i1, i2⟩ := ih ((d :: l).drop n) (p + n) c r (by rw [List.length_drop, List.length_cons]; omega) hc
            rw [hct]
            simp only
            rw [hdr]
            refine ⟨fun ts cs h => ?_, fun q e h he => ?_⟩
            · obtain ⟨cs', h', rfl⟩ := Scan.com_ok h
              rw [i1 ts cs' h', Scan.com_pre, Scan.pre_pre]
              congr 2
              rw [List.length_drop]; omega
            · rw [i2 q e (Scan.com_err h) he]; rfl
          | «open» =>
            refine ⟨fun ts cs h => (by cases h), fun q e h he => ?_⟩
            simp only [Scan.err.injEq] at h
            exact absurd h.2.symm he
          | deep n =>
            refine ⟨fun ts cs h => (by cases h), fun q e h _ => ?_⟩
            obtain ⟨a, b, hab, ha, ho, hdp, _⟩ := com_deep _ _ _ _ hn
            have hct : comment (d :: (l ++ c :: r)) 0 0 = .deep n := by rw [← List.cons_append, hab, List.append_assoc]; exact hdp _
            rw [hct]
            exact h
      · rw [List.cons_append, scan_space hs, scan_space hs]
        obtain ⟨i1, i2⟩ := ih l (p + 1) c r (by omega) hc
        refine ⟨fun ts cs h => ?_, i2⟩
        rw [i1 ts cs h]
        congr 2
        rw [List.length_cons]; omega

/-- A scan further back. -/
def Tok.shift (d : Nat) (t : Tok) : Tok := { t with pos := t.pos + d }
def Scan.shift (d : Nat) : Scan → Scan
  | .ok ts cs => .ok (ts.map (Tok.shift d)) (cs.map fun c => (c.1 + d, c.2 + d))
  | .err q e => .err (q + d) e
theorem scan_shift : ∀ (m : Nat) (l : List B) (p d : Nat), l.length ≤ m → scan l (p + d) = (scan l p).shift d := by
  intro m
  induction m with
  | zero =>
    intro l p d hl
    obtain rfl : l = [] := List.eq_nil_of_length_eq_zero (by omega)
    rfl
  | succ m ih =>
    intro l p d hl
    cases l with
    | nil => rfl
    | cons c r =>
      simp only [List.length_cons] at hl
      cases hs : space c
      · cases hb : begins (c :: r)
        · rw [scan_tok hs hb, scan_tok hs hb]
          cases hn : next (c :: r) with
          | err x => rfl
          | tok k n j =>
            have hj := next_len hn
            simp only
            rw [show p + d + j = p + j + d from by omega, ih _ (p + j) d (by rw [List.length_drop, List.length_cons]; omega)]
            cases scan ((c :: r).drop j) (p + j) <;> rfl
        · rw [scan_com hs hb, scan_com hs hb]
          cases hn : comment (c :: r) 0 0 with
          | closed n =>
            have := (com_drop hn).choose_spec.choose_spec.2.2.1
            simp only
            rw [show p + d + n = p + n + d from by omega, ih _ (p + n) d (by rw [List.length_drop, List.length_cons]; omega)]
            cases scan ((c :: r).drop n) (p + n) <;> rfl
          | «open» => rfl
          | deep n =>
            show Scan.err (p + d + n) 6 = .err (p + n + d) 6
            rw [show p + d + n = p + n + d from by omega]
      · rw [scan_space hs, scan_space hs, show p + d + 1 = p + 1 + d from by omega]
        exact ih r (p + 1) d (by omega)

/-- Two texts with a space between them. -/
theorem scan_parts (a b : List B) (c : B) (hc : space c = true) :
    (∀ ts cs, scan a 0 = .ok ts cs → scan (a ++ c :: b) 0 = ((scan b 0).shift (a.length + 1)).pre ts cs) ∧ (∀ q e, scan a 0 = .err q e → e ≠ 12 → scan (a ++ c :: b) 0 = .err q e) := by
  obtain ⟨h1, h2⟩ := scan_before a.length a 0 c b (Nat.le_refl _) hc
  refine ⟨fun ts cs h => ?_, h2⟩
  rw [h1 ts cs h, ← scan_shift b.length b 0 (a.length + 1) (Nat.le_refl _)]
  rw [Nat.zero_add, Nat.zero_add]

/-- The tokens of a text: each is a part of it, is read alone as it was, and they are apart. -/
theorem scan_toks : ∀ (m : Nat) (l : List B) (p : Nat) (ts : List Tok) (cs : List (Nat × Nat)), l.length ≤ m → scan l p = .ok ts cs →
    ∀ t ∈ ts, p ≤ t.pos ∧ t.pos + t.text.length ≤ p + l.length ∧ t.text = (l.drop (t.pos - p)).take t.text.length ∧ next t.text = .tok t.kind t.num t.text.length := by
  intro m
  induction m with
  | zero =>
    intro l p ts cs hl h
    obtain rfl : l = [] := List.eq_nil_of_length_eq_zero (by omega)
    cases h
    simp
  | succ m ih =>
    intro l p ts cs hl h
    cases l with
    | nil => cases h; simp
    | cons c r =>
      simp only [List.length_cons] at hl
      cases hs : space c
      · cases hb : begins (c :: r)
        · rw [scan_tok hs hb] at h
          cases hn : next (c :: r) with
          | err x => rw [hn] at h; cases h
          | tok k n j =>
            rw [hn] at h
            simp only at h
            have hj := next_len hn
            obtain ⟨ts', h', rfl⟩ := Scan.tok_ok h
            intro t ht
            rcases List.mem_cons.1 ht with rfl | ht
            · simp only
              rw [take_len hj.2]
              exact ⟨Nat.le_refl _, by omega, by rw [Nat.sub_self, List.drop_zero], next_take hn (Nat.le_refl _)⟩
            · have := ih _ _ _ _ (by rw [List.length_drop, List.length_cons]; omega) h' t ht
              rw [List.length_drop, List.drop_drop, show j + (t.pos - (p + j)) = t.pos - p from by omega] at this
              exact ⟨by omega, by omega, this.2.2⟩
        · rw [scan_com hs hb] at h
          cases hn : comment (c :: r) 0 0 with
          | closed n =>
            rw [hn] at h
            simp only at h
            obtain ⟨a, b, hab, ha, h2, hd, _, _⟩ := com_drop hn
            have hln : n ≤ (c :: r).length := by rw [hab, List.length_append]; omega
            obtain ⟨cs', h', rfl⟩ := Scan.com_ok h
            intro t ht
            have := ih _ _ _ _ (by rw [List.length_drop, List.length_cons]; omega) h' t ht
            rw [List.length_drop, List.drop_drop, show n + (t.pos - (p + n)) = t.pos - p from by omega] at this
            exact ⟨by omega, by omega, this.2.2⟩
          | «open» => rw [hn] at h; cases h
          | deep n => rw [hn] at h; cases h
      · rw [scan_space hs] at h
        intro t ht
        have := ih _ _ _ _ (by omega) h t ht
        refine ⟨by omega, by simp only [List.length_cons]; omega, ?_⟩
        rw [show t.pos - p = t.pos - (p + 1) + 1 from by omega, List.drop_succ_cons]
        exact this.2.2
/-- The tokens of a text and the spaces between them take at most twice its bytes. -/
theorem scan_room : ∀ (m : Nat) (l : List B) (p : Nat) (ts : List Tok) (cs : List (Nat × Nat)), l.length ≤ m → scan l p = .ok ts cs → (ts.map fun t => t.text.length + 1).sum ≤ 2 * l.length := by
  intro m
  induction m with
  | zero =>
    intro l p ts cs hl h
    obtain rfl : l = [] := List.eq_nil_of_length_eq_zero (by omega)
    cases h; simp
  | succ m ih =>
    intro l p ts cs hl h
    cases l with
    | nil => cases h; simp
    | cons c r =>
      simp only [List.length_cons] at hl
      cases hs : space c
      · cases hb : begins (c :: r)
        · rw [scan_tok hs hb] at h
          cases hn : next (c :: r) with
          | err x => rw [hn] at h; cases h
          | tok k n j =>
            rw [hn] at h
            simp only at h
            have hj := next_len hn
            obtain ⟨ts', h', rfl⟩ := Scan.tok_ok h
            have := ih _ _ _ _ (by rw [List.length_drop, List.length_cons]; omega) h'
            rw [List.length_drop] at this
            simp only [List.map_cons, List.sum_cons]
            rw [take_len hj.2]
            omega
        · rw [scan_com hs hb] at h
          cases hn : comment (c :: r) 0 0 with
          | closed n =>
            rw [hn] at h
            simp only at h
            obtain ⟨a, b, hab, ha, h2, hd, _, _⟩ := com_drop hn
            obtain ⟨cs', h', rfl⟩ := Scan.com_ok h
            have := ih _ _ _ _ (by rw [List.length_drop, List.length_cons]; omega) h'
            rw [List.length_drop] at this
            omega
          | «open» => rw [hn] at h; cases h
          | deep n => rw [hn] at h; cases h
      · rw [scan_space hs] at h
        have := ih _ _ _ _ (by omega) h
        simp only [List.length_cons]
        omega
theorem scan_count {l : List B} {p : Nat} {ts : List Tok} {cs : List (Nat × Nat)} (h : scan l p = .ok ts cs) : ts.length ≤ 2 * l.length := by
  have h1 := scan_room _ _ _ _ _ (Nat.le_refl _) h
  have h2 : ∀ (l : List Tok), l.length ≤ (l.map fun t => t.text.length + 1).sum := by
    intro l
    induction l with
    | nil => exact Nat.le_refl _
    | cons a r ih => simp only [List.length_cons, List.map_cons, List.sum_cons]; omega
  exact Nat.le_trans (h2 ts) h1
end Lx
