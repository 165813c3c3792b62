/- The reference's lines, columns and indices. -/
import Derived.Test.YtpbppmphcnhlcaaDoorLexLines
import Derived.Test.YtpbppmphcnhlcaaDoorPlacesPure
namespace Go.Proofs.YtpbppmphcnhlcaaDoor
open Go.RowKit

theorem line_small (l : List UInt8) (k : Nat) (hk : k ≤ l.length) (h5 : l.length ≤ 5000) : (1 ≤ Lx.lineOf l k ∧ Lx.lineOf l k ≤ 5001) ∧ (0 ≤ Lx.colOf l k ∧ Lx.colOf l k ≤ 5001) := by
  have hb := count_le (l.take k) 10
  have hl := last_bounds (l.take k) [10]
  have hk' : (l.take k).length = k := by rw [List.length_take]; omega
  rw [hk'] at hb hl
  unfold Lx.lineOf Lx.colOf
  omega
theorem byte_is (c : UInt8) : (((c.toNat : Int) == 10) = true ↔ c = 10) := by
  constructor
  · intro h
    have h := of_decide_eq_true h
    exact UInt8.toNat_inj.1 (by have e : (10 : UInt8).toNat = 10 := rfl; omega)
  · intro h; subst h; rfl
/-- What the step from an index to the next one does. -/
theorem step_at (t : ByteArray) (h5 : t.size ≤ 5000) (i : Nat) (hi : i < t.size) :
    wrap64 ((i : Int) + 1) = ((i + 1 : Nat) : Int) ∧ wrap64 (Lx.colOf t.data.toList i + 1) = Lx.colOf t.data.toList i + 1 ∧ wrap64 (Lx.lineOf t.data.toList i + 1) = Lx.lineOf t.data.toList i + 1 ∧
    (((t[i].toNat : Int) == 10) = true → Lx.lineOf t.data.toList (i + 1) = Lx.lineOf t.data.toList i + 1 ∧ Lx.colOf t.data.toList (i + 1) = 1) ∧
    (((t[i].toNat : Int) == 10) = false → Lx.lineOf t.data.toList (i + 1) = Lx.lineOf t.data.toList i ∧ Lx.colOf t.data.toList (i + 1) = Lx.colOf t.data.toList i + 1) := by
  have hlen : t.data.toList.length = t.size := by rw [Array.length_toList]; rfl
  have hin : i < t.data.toList.length := by omega
  have hs := line_small t.data.toList i (by omega) (by omega)
  have hn := Lx.line_next t.data.toList i hin
  have hb : t.data.toList[i] = t[i] := by rw [Array.getElem_toList]; rfl
  rw [hb] at hn
  refine ⟨by rw [IntWalk.wrap64_in ((i : Int) + 1) (by omega)]; omega, IntWalk.wrap64_in _ (by omega), IntWalk.wrap64_in _ (by omega), fun h => ?_, fun h => ?_⟩
  · have := (byte_is t[i]).1 h
    rw [if_pos this, if_pos this] at hn
    exact hn
  · have : ¬ t[i] = 10 := fun e => by rw [(byte_is t[i]).2 e] at h; cases h
    rw [if_neg this, if_neg this] at hn
    exact hn

set_option maxHeartbeats 1000000 in
theorem refLine_bad (t : ByteArray) (at_ : Int) (h : at_ < 0 ∨ (t.size : Int) < at_) (w : World) :
    Calls Tryd.prog 17 #[.string t, .int .i64 at_] w fun e w' => e = .returned (.agg #[.int .i64 0, .int .i64 0, .int .i64 1]) ∧ Old w w' := by
  by_cases h0 : at_ < 0
  · have h1 : decide (at_ < 0) = true := by simpa using h0
    clear h h0
    go_enter Tryd.func17, Tryd.ntmps17
    go_wp2
    refine bodyPost_ret (v := .agg #[.int .i64 0, .int .i64 0, .int .i64 1]) (by simp [results, Tryd.results17, go_sem]) rfl ⟨rfl, (Old.refl w).alloc _⟩
  · have h1 : decide (at_ < 0) = false := by simpa using h0
    have h2 : decide ((t.size : Int) < at_) = true := by simp only [decide_eq_true_eq]; omega
    clear h h0
    go_enter Tryd.func17, Tryd.ntmps17
    go_wp2
    refine bodyPost_ret (v := .agg #[.int .i64 0, .int .i64 0, .int .i64 1]) (by simp [results, Tryd.results17, go_sem]) rfl ⟨rfl, (Old.refl w).alloc _⟩

set_option maxRecDepth 100000 in
set_option maxHeartbeats 1000000 in
theorem refLine_ok (t : ByteArray) (ht : t.size ≤ 5000) (k : Nat) (hk : k ≤ t.size) (w : World) :
    Calls Tryd.prog 17 #[.string t, .int .i64 k] w fun e w' => e = .returned (.agg #[.int .i64 (Lx.lineOf t.data.toList k), .int .i64 (Lx.colOf t.data.toList k), .int .i64 0]) ∧ Old w w' := by
  have h1 : decide ((k : Int) < 0) = false := by simp only [decide_eq_false_iff_not]; omega
  have h2 : decide ((t.size : Int) < (k : Int)) = false := by simp only [decide_eq_false_iff_not]; omega
  go_enter Tryd.func17, Tryd.ntmps17
  have hlen : t.data.toList.length = t.size := by rw [Array.length_toList]; rfl
  go_wp2_with fail
  go_loopg [6] k (fun g x wr => ∃ i : Nat, g = k - i ∧ i ≤ k ∧ x = .int .i64 i ∧ Blk wr (w.heap.size + 1) #[.int .i64 (Lx.lineOf t.data.toList i), .int .i64 (Lx.colOf t.data.toList i), .int .i64 0] 31 ∧ Blk wr w.heap.size #[.int .i64 0, .int .i64 0, .int .i64 0] 31 ∧ Old w wr)
  case atStart =>
    exact ⟨0, rfl, Nat.zero_le _, rfl, Blk.new' (by simp) _ _, (Blk.new w _ _).alloc _, ((Old.refl w).alloc _).alloc _⟩
  case round =>
    obtain ⟨i, hgk, hi, rfl, hB, hR, hO⟩ := hrel
    have HG := Lib.hid hgk
    clear hgk
    have c0 := hB.cell (i := 0) (v := .int .i64 (Lx.lineOf t.data.toList i)) rfl
    have c1 := hB.cell (i := 1) (v := .int .i64 (Lx.colOf t.data.toList i)) rfl
    have c2 := hB.cell (i := 2) (v := .int .i64 0) rfl
    have f0 := hB.free 0
    have f1 := hB.free 1
    by_cases hlt : i < k
    · have hd : decide ((i : Int) < (k : Int)) = true := by simp only [decide_eq_true_eq]; omega
      have hit : i < t.size := by omega
      obtain ⟨q1, q2, q3, n1, n2⟩ := step_at t ht i hit
      have HI := Lib.hid hlt
      clear hlt hi hk h1 h2 hlen ht
      cases hb : ((t[i].toNat : Int) == 10)
      · obtain ⟨e1, e2⟩ := n2 hb
        have HE := Lib.hid (And.intro e1 e2)
        clear n1 n2 e1 e2
        go_wp2
        go_roundg (k - (i + 1))
        case measure => have := HG.out; have := HI.out; omega
        case rel =>
          refine ⟨i + 1, rfl, HI.out, by rw [q1], ?_, hR.other _ (by simp) _, hO.setCell ⟨w.heap.size + 1, 1, none⟩ (fun e => absurd e (by simp)) _⟩
          rw [HE.out.1, HE.out.2]
          exact hB.set 1 _
      · obtain ⟨e1, e2⟩ := n1 hb
        have HE := Lib.hid (And.intro e1 e2)
        clear n1 n2 e1 e2
        go_wp2
        go_roundg (k - (i + 1))
        case measure => have := HG.out; have := HI.out; omega
        case rel =>
          refine ⟨i + 1, rfl, HI.out, by rw [q1], ?_, ((hR.other _ (by simp) _).other _ (by simp) _).other _ (by simp) _, ((hO.setCell ⟨w.heap.size + 1, 1, none⟩ (fun e => absurd e (by simp)) _).setCell ⟨w.heap.size + 1, 0, none⟩ (fun e => absurd e (by simp)) _).setCell ⟨w.heap.size + 1, 1, none⟩ (fun e => absurd e (by simp)) _⟩
          rw [HE.out.1, HE.out.2]
          exact ((hB.set 1 _).set 0 _).set 1 _
    · have hd : decide ((i : Int) < (k : Int)) = false := by simp only [decide_eq_false_iff_not]; omega
      have hik : i = k := by omega
      subst hik
      have r0 := hR.cell (i := 0) (v := .int .i64 0) rfl
      have r1 := hR.cell (i := 1) (v := .int .i64 0) rfl
      have r2 := hR.cell (i := 2) (v := .int .i64 0) rfl
      have g0 := hR.free 0
      have g1 := hR.free 1
      have g2 := hR.free 2
      clear hlt hi hk h1 h2 hlen ht
      go_wp2
      have b4 := ((hR.set 0 (.int .i64 (Lx.lineOf t.data.toList i))).set 1 (.int .i64 (Lx.colOf t.data.toList i))).set 2 (.int .i64 0)
      have O4 : Old w ((((wr.setCell ⟨w.heap.size, 0, none⟩ (.int .i64 (Lx.lineOf t.data.toList i))).setCell ⟨w.heap.size, 1, none⟩ (.int .i64 (Lx.colOf t.data.toList i))).setCell ⟨w.heap.size, 2, none⟩ (.int .i64 0))) := ((hO.setCell ⟨w.heap.size, 0, none⟩ (fun e => absurd e (Nat.lt_irrefl _)) _).setCell ⟨w.heap.size, 1, none⟩ (fun e => absurd e (Nat.lt_irrefl _)) _).setCell ⟨w.heap.size, 2, none⟩ (fun e => absurd e (Nat.lt_irrefl _)) _
      have s0 := b4.cell (i := 0) (v := .int .i64 (Lx.lineOf t.data.toList i)) rfl
      have s1 := b4.cell (i := 1) (v := .int .i64 (Lx.colOf t.data.toList i)) rfl
      have s2 := b4.cell (i := 2) (v := .int .i64 0) rfl
      refine bodyPost_ret (v := .agg #[.int .i64 (Lx.lineOf t.data.toList i), .int .i64 (Lx.colOf t.data.toList i), .int .i64 0]) ?_ rfl ⟨rfl, O4⟩
      simp [results, Tryd.results17, go_sem, s0, s1, s2]

/-- The index of a line and a column, whatever integers these are. -/
def Lx.atI (l : List UInt8) (n c : Int) : Option Nat := if n < 1 ∨ c < 1 then none else Lx.atOf l (n - 1).toNat (c - 1).toNat

theorem atI_hit {l : List UInt8} {i : Nat} (hi : i ≤ l.length) : Lx.atI l (Lx.lineOf l i) (Lx.colOf l i) = some i := by
  obtain ⟨n, c, h1, h2, h3⟩ := Lx.at_line _ l (Nat.le_refl _) i hi
  unfold Lx.atI
  rw [h1, h2, if_neg (by omega)]
  have e1 : ((n : Int) + 1 - 1).toNat = n := by omega
  have e2 : ((c : Int) + 1 - 1).toNat = c := by omega
  rw [e1, e2, h3]
theorem atI_miss {l : List UInt8} {n c : Int} (h : ∀ j, j ≤ l.length → ¬ (Lx.lineOf l j = n ∧ Lx.colOf l j = c)) : Lx.atI l n c = none := by
  unfold Lx.atI
  split
  · rfl
  · rename_i hb
    cases ha : Lx.atOf l (n - 1).toNat (c - 1).toNat with
    | none => rfl
    | some k =>
      obtain ⟨h1, h2, h3⟩ := Lx.at_conv _ l (Nat.le_refl _) _ _ _ ha
      exact absurd ⟨by rw [h2]; omega, by rw [h3]; omega⟩ (h k h1)

theorem at_any (t : ByteArray) (ht : t.size ≤ 1000000000000) (n c : Int) (hn : n ≤ 9223372036854775807) (hc : c ≤ 9223372036854775807) (w : World) :
    Calls Tryd.prog 18 #[.string t, .int .i64 n, .int .i64 c] w fun e w' => e = .returned (atV (Lx.atI t.data.toList n c)) ∧ Old w w' := by
  unfold Lx.atI
  by_cases h : n < 1 ∨ c < 1
  · rw [if_pos h]; exact at_bad t n c h w
  · rw [if_neg h]
    have := at_ok t ht (n - 1).toNat (c - 1).toNat (by omega) (by omega) w
    rwa [show ((n - 1).toNat : Int) + 1 = n from by omega, show ((c - 1).toNat : Int) + 1 = c from by omega] at this

set_option maxRecDepth 100000 in
set_option maxHeartbeats 1000000 in
theorem refAt_any (t : ByteArray) (ht : t.size ≤ 5000) (n c : Int) (w : World) :
    Calls Tryd.prog 19 #[.string t, .int .i64 n, .int .i64 c] w fun e w' => e = .returned (atV (Lx.atI t.data.toList n c)) ∧ Old w w' := by
  have hlen : t.data.toList.length = t.size := by rw [Array.length_toList]; rfl
  go_enter Tryd.func19, Tryd.ntmps19
  go_wp2_with fail
  go_loopg [8, 9, 10] (t.size + 1) (fun g x y z wr => ∃ i : Nat, g = t.size + 1 - i ∧ i ≤ t.size + 1 ∧ z = .int .i64 i ∧ (i ≤ t.size → x = .int .i64 (Lx.lineOf t.data.toList i) ∧ y = .int .i64 (Lx.colOf t.data.toList i)) ∧ (∀ j, j < i → ¬ (Lx.lineOf t.data.toList j = n ∧ Lx.colOf t.data.toList j = c)) ∧ wr = w)
  case atStart =>
    exact ⟨0, rfl, Nat.zero_le _, rfl, fun _ => ⟨rfl, rfl⟩, fun j hj => by omega, rfl⟩
  case round =>
    obtain ⟨i, hgk, hi, rfl, hxy, hmiss, rfl⟩ := hrel
    have HG := Lib.hid hgk
    clear hgk
    by_cases hle : i ≤ t.size
    · obtain ⟨rfl, rfl⟩ := hxy hle
      clear hxy
      have hd : decide (i ≤ t.size) = true := by simp only [decide_eq_true_eq]; omega
      by_cases hhit : Lx.lineOf t.data.toList i = n ∧ Lx.colOf t.data.toList i = c
      · obtain ⟨e1, e2⟩ := hhit
        have hh := atI_hit (l := t.data.toList) (i := i) (by omega)
        rw [e1, e2] at hh
        have HH := Lib.hid hh
        rw [e1, e2]
        clear hh e1 e2 hmiss hi hle
        go_wp2
        refine bodyPost_ret (v := atV (some i)) (by simp [results, Tryd.results19, go_sem, atV]) rfl ⟨by rw [HH.out], Old.refl wr⟩
      · have HM : Hid (∀ j, j < i + 1 → ¬ (Lx.lineOf t.data.toList j = n ∧ Lx.colOf t.data.toList j = c)) := Lib.hid (fun j hj => by
          rcases Nat.lt_succ_iff_lt_or_eq.1 hj with h | h
          · exact hmiss j h
          · subst h; exact hhit)
        clear hmiss
        cases hl1 : (Lx.lineOf t.data.toList i == n)
        · clear hhit
          by_cases hlt : i < t.size
          · have hd2 : decide (i < t.size) = true := by simp only [decide_eq_true_eq]; omega
            obtain ⟨q1, q2, q3, n1, n2⟩ := step_at t ht i hlt
            clear hi hle
            cases hb : ((t[i].toNat : Int) == 10)
            · obtain ⟨e1, e2⟩ := n2 hb
              have HE := Lib.hid (And.intro e1 e2)
              clear n1 n2 e1 e2
              go_wp2
              go_roundg (t.size + 1 - (i + 1))
              case measure => have := HG.out; omega
              case rel => exact ⟨i + 1, rfl, by omega, by first | rfl | rw [q1], fun _ => ⟨by rw [HE.out.1] <;> first | rfl | rw [q3], by rw [HE.out.2] <;> first | rfl | rw [q2]⟩, HM.out, rfl⟩
            · obtain ⟨e1, e2⟩ := n1 hb
              have HE := Lib.hid (And.intro e1 e2)
              clear n1 n2 e1 e2
              go_wp2
              go_roundg (t.size + 1 - (i + 1))
              case measure => have := HG.out; omega
              case rel => exact ⟨i + 1, rfl, by omega, by first | rfl | rw [q1], fun _ => ⟨by rw [HE.out.1] <;> first | rfl | rw [q3], by rw [HE.out.2] <;> first | rfl | rw [q2]⟩, HM.out, rfl⟩
          · have hd2 : decide (i < t.size) = false := by simp only [decide_eq_false_iff_not]; omega
            have hie : i = t.size := by omega
            have HIE := Lib.hid hie
            clear hie
            have q1 : wrap64 ((i : Int) + 1) = ((i + 1 : Nat) : Int) := by rw [IntWalk.wrap64_in ((i : Int) + 1) (by omega)]; omega
            clear hi hle hlt
            go_wp2
            go_roundg (t.size + 1 - (i + 1))
            case measure => have := HG.out; have := HIE.out; omega
            case rel => exact ⟨i + 1, rfl, by have := HIE.out; omega, by first | rfl | rw [q1], fun e => by have := HIE.out; omega, HM.out, rfl⟩

        · have hl2 : (Lx.colOf t.data.toList i == c) = false := beq_eq_false_iff_ne.2 (fun e => hhit ⟨of_decide_eq_true hl1, e⟩)
          clear hhit
          by_cases hlt : i < t.size
          · have hd2 : decide (i < t.size) = true := by simp only [decide_eq_true_eq]; omega
            obtain ⟨q1, q2, q3, n1, n2⟩ := step_at t ht i hlt
            clear hi hle
            cases hb : ((t[i].toNat : Int) == 10)
            · obtain ⟨e1, e2⟩ := n2 hb
              have HE := Lib.hid (And.intro e1 e2)
              clear n1 n2 e1 e2
              go_wp2
              go_roundg (t.size + 1 - (i + 1))
              case measure => have := HG.out; omega
              case rel => exact ⟨i + 1, rfl, by omega, by first | rfl | rw [q1], fun _ => ⟨by rw [HE.out.1] <;> first | rfl | rw [q3], by rw [HE.out.2] <;> first | rfl | rw [q2]⟩, HM.out, rfl⟩
            · obtain ⟨e1, e2⟩ := n1 hb
              have HE := Lib.hid (And.intro e1 e2)
              clear n1 n2 e1 e2
              go_wp2
              go_roundg (t.size + 1 - (i + 1))
              case measure => have := HG.out; omega
              case rel => exact ⟨i + 1, rfl, by omega, by first | rfl | rw [q1], fun _ => ⟨by rw [HE.out.1] <;> first | rfl | rw [q3], by rw [HE.out.2] <;> first | rfl | rw [q2]⟩, HM.out, rfl⟩
          · have hd2 : decide (i < t.size) = false := by simp only [decide_eq_false_iff_not]; omega
            have hie : i = t.size := by omega
            have HIE := Lib.hid hie
            clear hie
            have q1 : wrap64 ((i : Int) + 1) = ((i + 1 : Nat) : Int) := by rw [IntWalk.wrap64_in ((i : Int) + 1) (by omega)]; omega
            clear hi hle hlt
            go_wp2
            go_roundg (t.size + 1 - (i + 1))
            case measure => have := HG.out; have := HIE.out; omega
            case rel => exact ⟨i + 1, rfl, by have := HIE.out; omega, by first | rfl | rw [q1], fun e => by have := HIE.out; omega, HM.out, rfl⟩
    · have hd : decide (i ≤ t.size) = false := by simp only [decide_eq_false_iff_not]; omega
      have hno : Lx.atI t.data.toList n c = none := atI_miss (fun j hj => hmiss j (by rw [hlen] at hj; omega))
      have HNO := Lib.hid hno
      clear hno hmiss hxy hi hle
      go_wp2
      refine bodyPost_ret (v := atV none) (by simp [results, Tryd.results19, go_sem, atV]) rfl ⟨by rw [HNO.out], Old.refl wr⟩
end Go.Proofs.YtpbppmphcnhlcaaDoor
