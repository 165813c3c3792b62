/- The reference's signs: one byte. -/
import Derived.Test.YtdchnjijdkgfhaaGreatDoorRefRead
namespace Go.Proofs.YtdchnjijdkgfhaaGreatDoor
open Go.RowKit

/-- How long a sign is at the head of a list; 0: there is none. -/
def Lx.signLen (l : List UInt8) : Nat := if (Lx.peek l 0 = 61 ∨ Lx.peek l 0 = 45) ∧ Lx.peek l 1 = 62 then 2 else if Lx.sign1.contains (Lx.peek l 0) then 1 else 0
theorem signText_at : ∀ k : Fin 14, (⟨#[40, 41, 44, 59, 58, 124, 61, 60, 43, 45, 42, 47, 37, 95]⟩ : ByteArray)[k.val]'(show k.val < 14 from k.isLt) = Lx.sign1[k.val]'(show k.val < 14 from k.isLt) := by decide

set_option maxRecDepth 100000 in
set_option maxHeartbeats 1000000 in
theorem sign_end (s : ByteArray) (hs : s.size ≤ 140737488355328) (i : Nat) (hi : i + 1 = s.size) (w : World) :
    Calls Tryz.prog 61 #[.string s, .int .i64 i] w fun e w' => e = .returned (.int .i64 ((if Lx.sign1.contains (s[i]'(by omega)) then 1 else 0 : Nat) : Int)) ∧ ∃ n, w' = w.drewN n := by
  have hil : i < s.size := by omega
  have hd : decide ((i : Int) + 1 < (s.size : Int)) = false := by simp only [decide_eq_false_iff_not]; omega
  have hlt : (i : Int) < (s.size : Int) := by omega
  obtain ⟨c, hc⟩ : ∃ c, s[i] = c := ⟨_, rfl⟩
  have hw1 : wrap64 ((i : Int) + 1) = (i : Int) + 1 := IntWalk.wrap64_in _ (by omega)
  rw [hc]
  obtain ⟨R, hR⟩ : ∃ R : Nat, (if Lx.sign1.contains c then 1 else 0) = R := ⟨_, rfl⟩
  rw [hR]
  have HR := Lib.hid hR
  clear hR
  go_enter Tryz.func61, Tryz.ntmps61
  go_wp2_with fail
  go_loopg [6] 14 (fun g x wr => ∃ k n : Nat, g = 14 - k ∧ k ≤ 14 ∧ x = .int .i64 k ∧ (∀ j (hj : j < 14), j < k → Lx.sign1[j]'hj ≠ c) ∧ wr = w.drewN n)
  case atStart => exact ⟨0, 0, rfl, by decide, rfl, fun j _ h => by omega, rfl⟩
  case round =>
    clear hw1
    obtain ⟨k, n, hgk, hk, rfl, hno, rfl⟩ := hrel
    have HG := Lib.hid hgk
    clear hgk
    by_cases hl : k < 14
    · have hdk : decide ((k : Int) < 14) = true := by simp only [decide_eq_true_eq]; omega
      have hkl : (k : Int) < 14 := by omega
      have hx := signText_at ⟨k, hl⟩
      obtain ⟨x, hxe⟩ : ∃ x, Lx.sign1[k]'hl = x := ⟨_, rfl⟩
      have hx' : (⟨#[40, 41, 44, 59, 58, 124, 61, 60, 43, 45, 42, 47, 37, 95]⟩ : ByteArray)[k]'(show k < 14 from hl) = x := hx.trans hxe
      have hwk : Hid (wrap64 ((k : Int) + 1) = ((k + 1 : Nat) : Int)) := Lib.hid (by rw [IntWalk.wrap64_in _ (by omega)]; omega)
      by_cases hq : x = c
      · have hin : Lx.sign1.contains c = true := by
          rw [List.contains_iff_mem]
          exact (hxe.trans hq) ▸ List.getElem_mem (l := Lx.sign1) hl
        have HIN := Lib.hid hin
        have hb : ((x.toNat : Int) == (c.toNat : Int)) = true := by rw [hq]; simp
        clear hx hxe hno hin hq hk
        go_wp2_with fail
        go_quiet (fail)
        go_wp2
        go_ret
        have hr := HR.out
        rw [HIN.out, if_pos rfl] at hr
        subst hr
        exact ⟨rfl, _, World.drewN_drewN _ _ _⟩
      · have hn2 : ∀ j (hj : j < 14), j < k + 1 → Lx.sign1[j]'hj ≠ c := by
          intro j hj h
          rcases Nat.lt_succ_iff_lt_or_eq.1 h with h | h
          · exact hno j hj h
          · subst h; rw [hxe]; exact hq
        have HN := Lib.hid hn2
        have hb : ((x.toNat : Int) == (c.toNat : Int)) = false := by
          rw [beq_eq_false_iff_ne]
          intro e
          exact hq (UInt8.toNat_inj.1 (by omega))
        clear hx hxe hno hn2 hq hk
        go_wp2_with fail
        go_quiet (fail)
        go_wp2
        go_roundg (14 - (k + 1))
        case measure => have := HG.out; omega
        case rel => exact ⟨k + 1, _, rfl, hl, by first | rfl | rw [hwk.out], HN.out, rfl⟩
    · have hdk : decide ((k : Int) < 14) = false := by simp only [decide_eq_false_iff_not]; omega
      have hin : Lx.sign1.contains c = false := by
        rw [Bool.eq_false_iff]
        intro e
        rw [List.contains_iff_mem] at e
        obtain ⟨j, hj, e⟩ := List.mem_iff_getElem.1 e
        have hj' : j < 14 := hj
        exact hno j hj' (by omega) e
      have HIN := Lib.hid hin
      clear hno hin hl hk
      go_wp2
      go_ret
      have hr := HR.out
      rw [HIN.out, if_neg (by decide)] at hr
      subst hr
      exact ⟨rfl, _, rfl⟩
end Go.Proofs.YtdchnjijdkgfhaaGreatDoor
