/- The reference's words. -/
import Derived.Test.YtdchnjijdkgfhaaGreatDoorRefRead
namespace Go.Proofs.YtdchnjijdkgfhaaGreatDoor
open Go.RowKit

/-- The row of words that the reference lays. -/
def wordCells : Array Value := (Lx.words.map fun x => Value.string ⟨x.toArray⟩).toArray
theorem wordCells_at {i : Nat} (h : i < Lx.words.length) : wordCells[i]? = some (.string ⟨(Lx.words[i]).toArray⟩) := by
  unfold wordCells
  rw [List.getElem?_toArray, List.getElem?_map, List.getElem?_eq_getElem h]
  rfl
theorem wordCells_is : wordCells = #[.string ⟨#[97, 110, 100]⟩, .string ⟨#[99, 97, 115, 101]⟩, .string ⟨#[100, 97, 116, 97]⟩, .string ⟨#[101, 108, 115, 101]⟩, .string ⟨#[101, 110, 100]⟩, .string ⟨#[102, 110]⟩, .string ⟨#[102, 117, 110]⟩, .string ⟨#[105, 102]⟩, .string ⟨#[105, 110]⟩, .string ⟨#[105, 110, 112, 117, 116]⟩, .string ⟨#[108, 101, 116]⟩, .string ⟨#[111, 102]⟩, .string ⟨#[111, 117, 116, 112, 117, 116]⟩, .string ⟨#[116, 104, 101, 110]⟩, .string ⟨#[118, 97, 108]⟩] := rfl
theorem words_length : Lx.words.length = 15 := rfl
theorem isWord_true {l : List UInt8} {i : Nat} (h : i < Lx.words.length) (e : Lx.words[i] = l) : Lx.isWord l = true := by
  unfold Lx.isWord
  rw [List.contains_iff_mem]
  exact e ▸ List.getElem_mem h
theorem isWord_false {l : List UInt8} (h : ∀ j (hj : j < Lx.words.length), Lx.words[j] ≠ l) : Lx.isWord l = false := by
  cases hw : Lx.isWord l
  · rfl
  · unfold Lx.isWord at hw
    rw [List.contains_iff_mem] at hw
    obtain ⟨j, hj, e⟩ := List.mem_iff_getElem.1 hw
    exact absurd e (h j hj)

set_option maxRecDepth 100000 in
set_option maxHeartbeats 1000000 in
theorem wordR_any (s : ByteArray) (w : World) :
    Calls Tryz.prog 60 #[.string s] w fun e w' => e = .returned (.bool (Lx.isWord s.data.toList)) ∧ Old w w' := by
  go_enter Tryz.func60, Tryz.ntmps60
  go_wp2_with fail
  go_loopg [4] 15 (fun g x wr => ∃ i : Nat, g = 15 - i ∧ i ≤ 15 ∧ x = .int .i64 i ∧ (∀ j (hj : j < Lx.words.length), j < i → Lx.words[j] ≠ s.data.toList) ∧ Blk wr w.heap.size wordCells 9 ∧ Old w wr)
  case atStart => exact ⟨0, rfl, by decide, rfl, fun j _ h => by omega, by rw [wordCells_is]; exact Blk.new' rfl _ _, (Old.refl w).alloc _⟩
  case round =>
    obtain ⟨i, hgk, hi, rfl, hno, hB, hO⟩ := hrel
    have HG := Lib.hid hgk
    clear hgk
    by_cases hlt : i < 15
    · have hd : decide ((i : Int) < 15) = true := by simp only [decide_eq_true_eq]; omega
      have hlw : i < Lx.words.length := hlt
      have hli : (i : Int) < 15 := by omega
      have hc := hB.cell (wordCells_at hlw)
      obtain ⟨x, hx⟩ : ∃ x, Lx.words[i] = x := ⟨_, rfl⟩
      rw [hx] at hc
      have hwi : Hid (wrap64 ((i : Int) + 1) = ((i + 1 : Nat) : Int)) := Lib.hid (by rw [IntWalk.wrap64_in _ (by omega)]; omega)
      by_cases hq : x = s.data.toList
      · have hw := isWord_true hlw (hx.trans hq)
        have HW := Lib.hid hw
        have hs : (⟨x.toArray⟩ : ByteArray) = s := by
          apply ByteArray.ext
          rw [hq]
        rw [hs] at hc
        clear hw hq hx hs hno hwi hi
        go_wp2
        go_ret
        exact ⟨ret_bool HW.out.symm, hO⟩
      · have hn2 : ∀ j (hj : j < Lx.words.length), j < i + 1 → Lx.words[j] ≠ s.data.toList := by
          intro j hj h
          rcases Nat.lt_succ_iff_lt_or_eq.1 h with h | h
          · exact hno j hj h
          · subst h; rw [hx]; exact hq
        have HN := Lib.hid hn2
        have hqe : ((⟨x.toArray⟩ : ByteArray).toList == s.toList) = false := by
          rw [Lib.toList_data, Lib.toList_data, beq_eq_false_iff_ne]
          show x.toArray.toList ≠ _
          rw [List.toList_toArray]
          exact hq
        obtain ⟨Y, hY⟩ : ∃ Y : ByteArray, (⟨x.toArray⟩ : ByteArray) = Y := ⟨_, rfl⟩
        rw [hY] at hc hqe
        clear hq hx hno hn2 hi hY
        go_wp2
        go_roundg (15 - (i + 1))
        case measure => have := HG.out; omega
        case rel => exact ⟨i + 1, rfl, hlt, by first | rfl | rw [hwi.out], HN.out, hB, hO⟩
    · have hd : decide ((i : Int) < 15) = false := by simp only [decide_eq_false_iff_not]; omega
      have hw := isWord_false (fun j hj => hno j hj (by have := words_length; omega))
      have HW := Lib.hid hw
      clear hw hno hlt hi
      go_wp2
      go_ret
      exact ⟨ret_bool HW.out.symm, hO⟩
end Go.Proofs.YtdchnjijdkgfhaaGreatDoor
