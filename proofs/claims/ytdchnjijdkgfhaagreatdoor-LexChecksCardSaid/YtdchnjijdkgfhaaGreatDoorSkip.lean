/- Spaces and comments: the scanner skips them. -/
import Derived.Test.YtdchnjijdkgfhaaGreatDoorNextAll
namespace Go.Proofs.YtdchnjijdkgfhaaGreatDoor
open Go.RowKit

theorem begins_two (l : List UInt8) : Lx.begins l = two l 40 42 := (two_eq l 40 42 (by decide) (by decide)).symm

theorem span_zero_cons {c : UInt8} {r : List UInt8} (h : Lx.span Lx.space (c :: r) = 0) : Lx.space c = false := by
  cases hc : Lx.space c
  · rfl
  · rw [Lx.span_cons_pos hc] at h; omega

theorem span_again (P : UInt8 → Bool) : ∀ l : List UInt8, Lx.span P (l.drop (Lx.span P l)) = 0
  | [] => rfl
  | c :: r => by
    cases h : P c
    · rw [Lx.span_cons_neg h, List.drop_zero, Lx.span_cons_neg h]
    · rw [Lx.span_cons_pos h, List.drop_succ_cons]
      exact span_again P r

/-- How skipping ends. -/
def SkipPost (w : World) (b : Nat) (t : ByteArray) (p : Nat) (L : List (Nat × Nat)) (e : Ending) (w' : World) : Prop :=
  (e = .returned (.tuple #[]) ∧ ∃ q v' C, St w' b t q v' ∧ Cm w' b v' (L ++ C) ∧ Frc b w w' ∧ Lx.scan (rest t p) p = (Lx.scan (rest t q) q).pre [] C ∧
    Lx.span Lx.space (rest t q) = 0 ∧ two (rest t q) 40 42 = false ∧ p ≤ q ∧ (L ++ C).length ≤ q) ∨
  (∃ (a : Nat) (x : Int), e = pan a x ∧ Lx.scan (rest t p) p = .err a x ∧ Frc b w w')

theorem scan_rest_space (t : ByteArray) (p : Nat) : Lx.scan (rest t p) p = Lx.scan (rest t (p + Lx.span Lx.space (rest t p))) (p + Lx.span Lx.space (rest t p)) := by
  rw [Lx.scan_spaces (rest t p) p, rest_drop]

theorem scan_rest_com {t : ByteArray} {q : Nat} (hs : Lx.span Lx.space (rest t q) = 0) (hb : two (rest t q) 40 42 = true) :
    Lx.scan (rest t q) q = match Lx.comment (rest t q) 0 0 with
      | .closed n => (Lx.scan (rest t (q + n)) (q + n)).pre [] [(q, q + n)]
      | .open => .err q 12
      | .deep n => .err (q + n) 6 := by
  obtain ⟨r, hr⟩ := two_true hb
  have h1 : Lx.space 40 = false := by decide
  have h2 : Lx.begins (40 :: 42 :: r) = true := by rw [begins_two, ← hr]; exact hb
  have := Lx.scan_com h1 h2 q
  rw [← hr] at this
  rw [this]
  cases Lx.comment (rest t q) 0 0 with
  | closed n => simp only; rw [Lx.Scan.com_pre, rest_drop]
  | «open» => rfl
  | deep n => rfl

set_option maxRecDepth 100000 in
set_option maxHeartbeats 1000000 in
theorem skip_any (w : World) (b : Nat) (t : ByteArray) (p : Nat) (v : Value) (h : St w b t p v) (L : List (Nat × Nat)) (hL : Cm w b v L) (hlen : L.length ≤ p) (ht : t.size ≤ 400000) :
    Calls Tryz.prog 76 #[.pointer (some ⟨b, 0, none⟩)] w (SkipPost w b t p L) := by
  go_enter Tryz.func76, Tryz.ntmps76
  go_wp2_with fail
  refine (h.pass_space).mono ?_
  rintro e w1 ⟨rfl, h1, f1⟩
  go_wp2_with fail
  go_loopg [] (t.size - (p + Lx.span Lx.space (rest t p))) (fun g wr => ∃ q v' C, g = t.size - q ∧ St wr b t q v' ∧ Cm wr b v' (L ++ C) ∧ Frc b w wr ∧ Lx.scan (rest t p) p = (Lx.scan (rest t q) q).pre [] C ∧ Lx.span Lx.space (rest t q) = 0 ∧ p ≤ q ∧ (L ++ C).length ≤ q)
  case atStart =>
    refine ⟨_, v, [], rfl, h1, ?_, f1.frc, ?_, ?_, by omega, ?_⟩
    · rw [List.append_nil]; exact hL.but f1
    · rw [Lx.Scan.pre_nil]; exact scan_rest_space t p
    · rw [← rest_drop]; exact span_again _ _
    · rw [List.append_nil]; omega
  case round =>
    obtain ⟨q, v', C, hg, hS, hC, hF, hsc, hsp, hpq, hlq⟩ := hrel
    have HG := Lib.hid hg
    have HS := Lib.hid hsc
    have HP := Lib.hid hsp
    clear hg hsc hsp
    cases hb : two (rest t q) 40 42
    · have HB := Lib.hid hb
      clear hb
      go_wp2_with fail
      refine (hS.begins 40 42 HB).mono ?_
      rintro e w2 ⟨rfl, m, rfl⟩
      go_wp2
      go_end0
      exact .inl ⟨rfl, q, v', C, hS.drewN m, hC.old ((Old.refl wr).drewN m), hF.drewN m, HS.out, HP.out, HB.out, hpq, hlq⟩
    · have HB := Lib.hid hb
      clear hb
      have hle := hS.le
      go_wp2_with fail
      refine (hS.begins 40 42 HB).mono ?_
      rintro e w2 ⟨rfl, m, rfl⟩
      go_wp2_with fail
      refine (comment_any _ b t q v' (hS.drewN m) (L ++ C) (hC.old ((Old.refl wr).drewN m)) (by omega) HB).mono ?_
      intro e w2 hP
      have hsq := scan_rest_com HP.out HB.out
      cases hc : Lx.comment (rest t q) 0 0 with
      | closed n =>
        rw [hc] at hP hsq
        obtain ⟨rfl, v2, h2, c2, f2⟩ := hP
        have HQ := Lib.hid hsq
        have hn := Lx.comment_pos _ _ _ _ hc
        clear hsq hc
        go_wp2_with fail
        refine (h2.pass_space).mono ?_
        rintro e w3 ⟨rfl, h3, f3⟩
        have hle3 := h3.le
        go_wp2_with fail
        go_roundg (t.size - (q + n + Lx.span Lx.space (rest t (q + n))))
        case measure => have := HG.out; omega
        case rel =>
          refine ⟨_, v2, C ++ [(q, q + n)], rfl, h3, ?_, ?_, ?_, ?_, by omega, ?_⟩
          · rw [← List.append_assoc]; exact c2.but f3
          · exact Frc.trans (Frc.trans (hF.drewN m) f2) f3.frc
          · rw [HS.out, HQ.out, ← scan_rest_space, Lx.Scan.pre_pre]
            rfl
          · rw [← rest_drop]; exact span_again _ _
          · rw [← List.append_assoc, List.length_append]
            simp only [List.length_cons, List.length_nil]
            omega
      | «open» =>
        rw [hc] at hP hsq
        obtain ⟨rfl, f2⟩ := hP
        have HQ := Lib.hid hsq
        clear hsq hc
        go_wp2
        refine ⟨rfl, .inr ⟨q, 12, rfl, ?_, Frc.trans (hF.drewN m) f2.frc⟩⟩
        rw [HS.out, HQ.out]
        rfl
      | deep n =>
        rw [hc] at hP hsq
        obtain ⟨rfl, f2⟩ := hP
        have HQ := Lib.hid hsq
        clear hsq hc
        go_wp2
        refine ⟨rfl, .inr ⟨q + n, 6, rfl, ?_, Frc.trans (hF.drewN m) f2.frc⟩⟩
        rw [HS.out, HQ.out]
        rfl
end Go.Proofs.YtdchnjijdkgfhaaGreatDoor
