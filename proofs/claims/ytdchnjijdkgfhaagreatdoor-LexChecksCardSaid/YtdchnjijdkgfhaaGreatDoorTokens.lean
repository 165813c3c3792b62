/- The tokens that are left, handed to a yield that always wants more. -/
import Derived.Test.YtdchnjijdkgfhaaGreatDoorWhole
import Derived.RangeFuncKeeps
import Derived.RangeFuncLeaves
import Derived.RangeFuncCalls
import Derived.WalkKit
import Derived.OwnWalkIn
import Derived.TacticsInMore
import Derived.LoopNIn
import Derived.LoopIn
import Derived.Sort.LoopGhostIn
namespace Go.Proofs.YtdchnjijdkgfhaaGreatDoor
open Go.RowKit

theorem rest_cons {t : ByteArray} {q : Nat} (h : q < t.size) : ∃ c r, rest t q = c :: r := by
  cases hr : rest t q with
  | nil =>
    exfalso
    have := congrArg List.length hr
    simp [rest] at this
    have h' : q < t.data.size := h
    omega
  | cons c r => exact ⟨c, r, rfl⟩
theorem rest_end {t : ByteArray} {q : Nat} (h : t.size ≤ q) : rest t q = [] := by
  unfold rest
  exact List.drop_eq_nil_of_le (by rw [Array.length_toList]; exact h)

theorem scan_rest_tok {t : ByteArray} {q : Nat} (hq : q < t.size) (hs : Lx.span Lx.space (rest t q) = 0) (hb : two (rest t q) 40 42 = false) :
    Lx.scan (rest t q) q = match Lx.next (rest t q) with
      | .tok k n j => (Lx.scan (rest t (q + j)) (q + j)).pre [{ kind := k, num := n, text := (rest t q).take j, pos := q }] []
      | .err e => .err q e := by
  obtain ⟨c, r, hr⟩ := rest_cons hq
  rw [hr] at hs hb
  have h1 := span_zero_cons hs
  have h2 : Lx.begins (c :: r) = false := by rw [begins_two]; exact hb
  have := Lx.scan_tok h1 h2 q
  rw [hr, this]
  cases Lx.next (c :: r) with
  | tok k n j =>
    simp only
    rw [Lx.Scan.tok_pre, ← hr, rest_drop]
  | err e => rfl

/-- A token as a value. -/
abbrev tkV (x : Lx.Tok) : Value := tokV x.kind x.num ⟨x.text.toArray⟩ x.pos

theorem extract_eq (t : ByteArray) (q j : Nat) : t.extract q (q + j) = ⟨((rest t q).take j).toArray⟩ := by
  apply ByteArray.ext
  apply Array.ext'
  rw [extract_take]

/-- How reading the tokens ends. -/
def ToksPost (b : Nat) (t : ByteArray) (J : List Lx.Tok → World → Prop) (e : Ending) (w' : World) : Prop :=
  (e = .returned (.tuple #[]) ∧ ∃ ts C q v, Lx.scan (rest t 0) 0 = .ok ts C ∧ J ts w' ∧ St w' b t q v ∧ Cm w' b v C ∧ Gl w') ∨
  (∃ (a : Nat) (x : Int) (ts : List Lx.Tok), e = pan a x ∧ Lx.scan (rest t 0) 0 = .err a x ∧ J ts w')

attribute [local go_sem] Oper.semAt_some

theorem Gl.frc {b : Nat} {w w' : World} (h : Gl w) (hf : Frc b w w') (hb : 6 ≤ b) (hl : b ≤ w.heap.size) : Gl w' := h.below ((hf.below hl).mono hb)

set_option maxRecDepth 100000 in
set_option maxHeartbeats 2000000 in
theorem tokens_any (n : Nat) (hn : 1 ≤ n) (l : Nat) (w : World) (b : Nat) (t : ByteArray) (v : Value) (h : St w b t 0 v) (hC : Cm w b v []) (hg : Gl w) (h6 : 6 ≤ b) (ht : t.size ≤ 400000)
    (J : List Lx.Tok → World → Prop) (hJ : ∀ ts W W', J ts W → b < W.heap.size → Frc b W W' → J ts W')
    (hY : ∀ (x : Lx.Tok) (ts : List Lx.Tok) (q : Nat) (u : Value) (C : List (Nat × Nat)) (W : World), ts.length ≤ 400000 → J ts W → St W b t q u → Cm W b u C → Gl W →
      YieldAt Fence.wide (n - 1) Tryz.prog l #[tkV x] W fun e W' => e = .returned (.bool true) ∧ J (ts ++ [x]) W' ∧ St W' b t q u ∧ Cm W' b u C ∧ Gl W')
    (h0 : J [] w) :
    CallsIn Fence.wide n Tryz.prog 53 #[.pointer (some ⟨b, 0, none⟩), .func (.yield l) #[] #[]] w (ToksPost b t J) := by
  refine callsIn_of_wp Tryz.func53 rfl trivial ?_ rfl
  simp only [Tryz.ntmps53, List.size_toArray, List.length_cons, List.length_nil, Nat.reduceAdd, Nat.reduceSub, Array.replicate_succ, Array.replicate_zero, List.push_toArray, List.append_toArray, List.nil_append, List.cons_append]
  gi_wp2_with fail
  refine ⟨trivial, (callsIn_wide.2 (skip_any _ b t 0 v h [] hC (by simp) ht)).mono ?_⟩
  rintro e w1 (⟨rfl, q, v1, C, h1, c1, f1, hsc, hsp, htw, hq, hlq⟩ | ⟨a, x, rfl, hsc, f1⟩)
  case inr =>
    gi_wp2
    exact ⟨rfl, .inr ⟨a, x, [], rfl, hsc, hJ _ _ _ h0 h.lt f1⟩⟩
  case inl =>
  have HS := Lib.hid hsc
  have HP := Lib.hid hsp
  have HB := Lib.hid htw
  clear hsc hsp htw
  rw [List.nil_append] at c1 hlq
  gi_wp2_with fail
  gi_loopg [] (t.size - q) (fun g wr => ∃ q v' C ts, g = t.size - q ∧ St wr b t q v' ∧ Cm wr b v' C ∧ Gl wr ∧ J ts wr ∧ Lx.scan (rest t 0) 0 = (Lx.scan (rest t q) q).pre ts C ∧ Lx.span Lx.space (rest t q) = 0 ∧ two (rest t q) 40 42 = false ∧ C.length ≤ q ∧ ts.length ≤ q)
  case atStart =>
    exact ⟨q, v1, C, [], rfl, h1, c1, hg.frc f1 h6 (Nat.le_of_lt h.lt), hJ _ _ _ h0 h.lt f1, HS.out, HP.out, HB.out, hlq, Nat.zero_le _⟩
  case round =>
    obtain ⟨q, v', C, ts, hgk, hS, hC', hG, hJt, hsc, hsp, htw, hlq, htl⟩ := hrel
    have HG := Lib.hid hgk
    have HS := Lib.hid hsc
    have HP := Lib.hid hsp
    have HB := Lib.hid htw
    have HL := Lib.hid hlq
    have HT := Lib.hid htl
    clear hgk hsc hsp htw hlq htl
    cases hd : decide (t.size ≤ q)
    · have HD := Lib.hid hd
      clear hd
      have hlt : q < t.size := by have := HD.out; simpa using this
      have hst := scan_rest_tok hlt HP.out HB.out
      gi_wp2_with fail
      refine ⟨trivial, (callsIn_wide.2 (hS.done HD)).mono ?_⟩
      rintro e w2 ⟨rfl, m, hw2⟩
      have hS2 : St w2 b t q v' := by rw [hw2]; exact hS.drewN m
      have hC2 : Cm w2 b v' C := by rw [hw2]; exact hC'.old ((Old.refl wr).drewN m)
      have hG2 : Gl w2 := by rw [hw2]; exact hG.old ((Old.refl wr).drewN m)
      have hJ2 : J ts w2 := by rw [hw2]; exact hJ _ _ _ hJt hS.lt (Old.frc ((Old.refl wr).drewN m) b)
      clear hw2
      gi_wp2_with fail
      refine ⟨trivial, (callsIn_wide.2 (next_all _ b t q v' hS2 hG2 h6)).mono ?_⟩
      intro e w3 hN
      cases hx : Lx.next (rest t q) with
      | err x =>
        rw [hx] at hN hst
        obtain ⟨rfl, f3⟩ := hN
        have HQ := Lib.hid hst
        clear hst
        gi_wp2
        refine ⟨rfl, .inr ⟨q, x, ts, rfl, ?_, hJ _ _ _ hJ2 hS2.lt f3.frc⟩⟩
        rw [HS.out, HQ.out]
        rfl
      | tok k m j =>
        rw [hx] at hN hst
        obtain ⟨rfl, h3, f3⟩ := hN
        rw [extract_eq]
        have HQ := Lib.hid hst
        obtain ⟨c0, r0, hr0⟩ := rest_cons hlt
        have hj := Lx.next_pos (hr0 ▸ hx)
        clear hr0
        have hC3 := hC2.but f3
        have hG3 := hG2.but f3 h6
        have hJ3 := hJ _ _ _ hJ2 hS2.lt f3.frc
        clear hst
        obtain ⟨fn, tmps, assign, body, hy, hR⟩ := hY ⟨k, m, (rest t q).take j, q⟩ ts (q + j) v' C w3 (by have := HT.out; have := hS.le; omega) hJ3 h3 hC3 hG3
        gi_wp2_with fail
        refine hR.mono ?_
        rintro e w4 ⟨rfl, hJ4, h4, c4, g4⟩
        clear hy hR
        have hle4 := h4.le
        gi_wp2_with fail
        refine ⟨trivial, (callsIn_wide.2 (skip_any _ b t (q + j) v' h4 C c4 (by have := HL.out; omega) ht)).mono ?_⟩
        rintro e w5 (⟨rfl, q5, v5, C5, h5, c5, f5, hsc, hsp, htw, hq5, hlq⟩ | ⟨a, x, rfl, hsc, f5⟩)
        · have HS5 := Lib.hid hsc
          have HP5 := Lib.hid hsp
          have HB5 := Lib.hid htw
          clear hsc hsp htw
          gi_wp2_with fail
          go_roundg (t.size - q5)
          case measure => have := HG.out; omega
          case rel =>
            refine ⟨q5, v5, C ++ C5, _, rfl, h5, c5, g4.frc f5 h6 (Nat.le_of_lt h4.lt), hJ _ _ _ hJ4 h4.lt f5, ?_, HP5.out, HB5.out, hlq, by have := HT.out; rw [List.length_append, List.length_singleton]; omega⟩
            rw [HS.out, HQ.out]
            rw [HS5.out, Lx.Scan.pre_pre, Lx.Scan.pre_pre]
            simp
        · have HS5 := Lib.hid hsc
          clear hsc
          gi_wp2
          refine ⟨rfl, .inr ⟨a, x, _, rfl, ?_, hJ _ _ _ hJ4 h4.lt f5⟩⟩
          rw [HS.out, HQ.out]
          rw [HS5.out]
          rfl
    · have HD := Lib.hid hd
      clear hd
      have hlt : t.size ≤ q := by have := HD.out; simpa using this
      gi_wp2_with fail
      refine ⟨trivial, (callsIn_wide.2 (hS.done HD)).mono ?_⟩
      rintro e w2 ⟨rfl, m, rfl⟩
      gi_wp2
      go_end0
      refine .inl ⟨rfl, ts, C, q, v', ?_, hJ _ _ _ hJt hS.lt (Old.frc ((Old.refl wr).drewN m) b), hS.drewN m, hC'.old ((Old.refl wr).drewN m), hG.old ((Old.refl wr).drewN m)⟩
      rw [HS.out, rest_end hlt, Lx.scan_nil]
      simp [Lx.Scan.pre]
end Go.Proofs.YtdchnjijdkgfhaaGreatDoor
