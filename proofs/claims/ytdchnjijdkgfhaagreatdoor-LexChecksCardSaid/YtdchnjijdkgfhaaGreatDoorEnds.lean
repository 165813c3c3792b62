/- What the package's functions do with a scanner of their own: Scan, Long, Kind and those that ask for a kind. -/
import Derived.Test.YtdchnjijdkgfhaaGreatDoorAllAny
namespace Lx
/-- The tokens of a scan, its index and its error. -/
def Scan.toks : Scan → List Tok
  | .ok ts _ => ts
  | .err _ _ => []
def Scan.coms : Scan → List (Nat × Nat)
  | .ok _ cs => cs
  | .err _ _ => []
def Scan.at_ : Scan → Nat
  | .ok _ _ => 0
  | .err p _ => p
def Scan.code : Scan → Int
  | .ok _ _ => 0
  | .err _ e => e
/-- The kind and the number of the token that a text as a whole is. -/
def whole (l : List B) : Option (Int × Int) :=
  match next l with
  | .tok k n j => if l.length ≤ j then some (k, n) else none
  | .err _ => none
def kind (l : List B) : Int := match whole l with
  | some (k, _) => k
  | none => 0
end Lx

namespace Go.Proofs.YtdchnjijdkgfhaaGreatDoor
open Go.RowKit


theorem new_st (t : ByteArray) (w : World) (ht : t.size ≤ 140737488355328) :
    Calls Tryz.prog 32 #[.string t] w fun e w' => e = .returned (.pointer (some ⟨w.heap.size, 0, none⟩)) ∧ St w' w.heap.size t 0 (.slice none 0 0) ∧ Cm w' w.heap.size (.slice none 0 0) [] ∧ Old w w' := by
  refine (newScanner_any t w).mono ?_
  rintro e w' ⟨rfl, rfl⟩
  refine ⟨rfl, ⟨#[.map none, .map none, .map none, .map none, .map none, .map none, .map none, .slice none 0 0], ⟨Blk.new w _ _, ht, Nat.zero_le _⟩, ⟨rfl, fun i hi => .inl ?_⟩, rfl⟩, ⟨rfl, .inl ⟨rfl, rfl⟩⟩, (Old.refl w).alloc _⟩
  have : i = 0 ∨ i = 1 ∨ i = 2 ∨ i = 3 ∨ i = 4 ∨ i = 5 ∨ i = 6 := by omega
  rcases this with rfl | rfl | rfl | rfl | rfl | rfl | rfl <;> rfl

/-- What a scan hands back. -/
def ScanPost (w : World) (r : Lx.Scan) (e : Ending) (w' : World) : Prop :=
  ∃ lv, e = .returned (.tuple #[lv, .int .i64 r.at_, .int .i64 r.code]) ∧ Tk w' w.heap.size lv r.toks ∧ Old w w'

theorem rest_zero (t : ByteArray) : rest t 0 = t.data.toList := rfl
theorem Old.below {w w1 w2 : World} (h : Old w w1) (k : Below w.heap.size w1 w2) : Old w w2 :=
  ⟨k.os.trans h.os, k.tape.trans h.tape, k.output.trans h.output, Nat.le_trans h.size k.size, fun i hi hn => (k.block i hi).trans (h.block i hi hn)⟩
theorem tk_nil (w : World) (b : Nat) : Tk w b (.slice none 0 0) [] := ⟨rfl, .inl ⟨rfl, rfl⟩⟩

theorem scan_post {w w1 w2 : World} {t : ByteArray} {most : Nat} {e : Ending} (hw : Old w w1) (h : AllPost w1 w.heap.size t (most : Nat) e w2) : ScanPost w (Lx.upto t.data.toList most) e w2 := by
  have hlen : t.data.toList.length = t.size := by rw [Array.length_toList]; rfl
  unfold Lx.upto
  rw [hlen]
  rcases h with ⟨hm, rfl, hb⟩ | ⟨hm, ts, C, q, v', lv, hsc, rfl, htk, _, _, hb⟩ | ⟨hm, a, x, hsc, rfl, hb⟩
  · rw [if_pos (by omega)]
    exact ⟨_, rfl, tk_nil _ _, hw.below hb⟩
  · rw [if_neg (by omega), ← rest_zero, hsc]
    exact ⟨_, rfl, htk, hw.below hb⟩
  · rw [if_neg (by omega), ← rest_zero, hsc]
    exact ⟨_, rfl, tk_nil _ _, hw.below hb⟩

set_option maxHeartbeats 400000 in
theorem scan_any (t : ByteArray) (ht : t.size ≤ 140737488355328) (w : World) (hg : Gl w) :
    Calls Tryz.prog 7 #[.string t] w (ScanPost w (Lx.upto t.data.toList 20000)) := by
  have h6 := hg.lt
  go_enter Tryz.func7, Tryz.ntmps7
  go_wp2_with fail
  refine (new_st t w ht).mono ?_
  rintro e w1 ⟨rfl, hS, hC, hO⟩
  go_wp2_with fail
  refine (all_any w1 w.heap.size t _ hS hC (hg.old hO) h6 20000 (by decide)).mono ?_
  intro e w2 hP
  have hR := scan_post (most := 20000) hO hP
  obtain ⟨lv, rfl, htk, hO2⟩ := hR
  clear hP
  go_wp2
  refine bodyPost_ret (by simp [results, Tryz.results7, go_sem]) rfl ⟨_, rfl, htk, hO2⟩

/-- How a text as a whole is read. -/
def WholePost (w : World) (b : Nat) (s : ByteArray) (v : Value) (e : Ending) (w' : World) : Option (Int × Int) → Prop
  | some (k, n) => e = .returned (.tuple #[tokV k n s 0, .bool true]) ∧ St w' b s s.size v ∧ But b w w'
  | none => e = .returned (.tuple #[tokV 0 0 ⟨#[]⟩ 0, .bool false]) ∧ But b w w'

theorem whole_any (w : World) (b : Nat) (t : ByteArray) (p : Nat) (v : Value) (h : St w b t p v) (hg : Gl w) (h6 : 6 ≤ b) (s : ByteArray) (hs : s.size ≤ 140737488355328) :
    Calls Tryz.prog 44 #[.pointer (some ⟨b, 0, none⟩), .string s] w fun e w' => WholePost w b s v e w' (Lx.whole s.data.toList) := by
  have hlen : s.data.toList.length = s.size := by rw [Array.length_toList]; rfl
  unfold Lx.whole
  rw [hlen]
  cases hN : Lx.next s.data.toList with
  | err x => exact whole_err w b t p v h hg h6 s hs x (Lib.hid hN)
  | tok k n j =>
    by_cases hj : s.size ≤ j
    · have he : s.extract 0 j = s := by
        apply ByteArray.ext
        rw [ByteArray.data_extract, Array.extract_eq_self_of_le]
        exact hj
      simp only [if_pos hj]
      refine (whole_tok w b t p v h hg h6 s hs k n j (Lib.hid hN) (Lib.hid (by simpa using hj)) he).mono ?_
      rintro e w' ⟨he', hS, hB⟩
      have : j = s.size := by
        have := hS.le
        omega
      subst this
      exact ⟨he', hS, hB⟩
    · simp only [if_neg hj]
      exact whole_part w b t p v h hg h6 s hs k n j (Lib.hid hN) (Lib.hid (by simpa using hj))

theorem whole_kind {w w' : World} {b : Nat} {s : ByteArray} {v : Value} {e : Ending} (h : WholePost w b s v e w' (Lx.whole s.data.toList)) : ∃ n x o, e = .returned (.tuple #[tokV (Lx.kind s.data.toList) n x 0, .bool o]) ∧ But b w w' := by
  unfold Lx.kind
  cases hW : Lx.whole s.data.toList with
  | none =>
    rw [hW] at h
    exact ⟨_, _, _, h⟩
  | some x =>
    obtain ⟨k, n⟩ := x
    rw [hW] at h
    exact ⟨_, _, _, h.1, h.2.2⟩

theorem Old.but' {w w1 w2 : World} {b : Nat} (h : Old w w1) (hb : w.heap.size ≤ b) (k : But b w1 w2) : Old w w2 := Fr.trans' h k (fun i hi e => by omega)

set_option maxHeartbeats 400000 in
theorem kind_any (t : ByteArray) (ht : t.size ≤ 140737488355328) (w : World) (hg : Gl w) :
    Calls Tryz.prog 25 #[.string t] w fun e w' => e = .returned (.int .i64 (Lx.kind t.data.toList)) ∧ Old w w' := by
  have h6 := hg.lt
  go_enter Tryz.func25, Tryz.ntmps25
  go_wp2_with fail
  refine (new_st ⟨#[]⟩ w (by decide)).mono ?_
  rintro e w1 ⟨rfl, hS, hC, hO⟩
  go_wp2_with fail
  refine (whole_any w1 w.heap.size _ _ _ hS (hg.old hO) h6 t ht).mono ?_
  intro e w2 hP
  obtain ⟨n, x, o, rfl, hB⟩ := whole_kind hP
  have hO2 := hO.but' (Nat.le_refl _) hB
  clear hP
  go_wp2
  go_ret
  exact ⟨rfl, hO2.alloc _⟩

theorem kind_is (t : ByteArray) (ht : t.size ≤ 140737488355328) (w : World) (hg : Gl w) {k : Int} (hk : Hid (Lx.kind t.data.toList = k)) :
    Calls Tryz.prog 25 #[.string t] w fun e w' => e = .returned (.int .i64 k) ∧ Old w w' := by
  have := kind_any t ht w hg
  rwa [hk.out] at this

set_option maxHeartbeats 400000 in
theorem isName_any (t : ByteArray) (ht : t.size ≤ 140737488355328) (w : World) (hg : Gl w) :
    Calls Tryz.prog 21 #[.string t] w fun e w' => e = .returned (.bool (Lx.kind t.data.toList == 2)) ∧ Old w w' := by
  go_enter Tryz.func21, Tryz.ntmps21
  go_wp2_with fail
  refine (kind_any t ht w hg).mono ?_
  rintro e w1 ⟨rfl, hO⟩
  go_wp2
  go_ret
  exact ⟨rfl, hO⟩

set_option maxHeartbeats 400000 in
theorem plain_name (t : ByteArray) (ht : t.size ≤ 140737488355328) (w : World) (hg : Gl w) (hk : Hid (Lx.kind t.data.toList = 2)) :
    Calls Tryz.prog 26 #[.string t] w fun e w' => e = .returned (.bool (!(decide (0 ≤ Lib.indexByte t.data.toList 39)))) ∧ Old w w' := by
  go_enter Tryz.func26, Tryz.ntmps26
  go_wp2_with fail
  refine (kind_is t ht w hg hk).mono ?_
  rintro e w1 ⟨rfl, hO⟩
  go_wp2_with fail
  refine (Tryz.strings_Contains_one t 39 w1).mono ?_
  rintro e w2 ⟨rfl, rfl⟩
  go_wp2
  go_ret
  exact ⟨rfl, hO⟩

set_option maxHeartbeats 400000 in
theorem plain_con (t : ByteArray) (ht : t.size ≤ 140737488355328) (w : World) (hg : Gl w) (hk : Hid (Lx.kind t.data.toList = 3)) :
    Calls Tryz.prog 26 #[.string t] w fun e w' => e = .returned (.bool (!(decide (0 ≤ Lib.indexByte t.data.toList 39)))) ∧ Old w w' := by
  go_enter Tryz.func26, Tryz.ntmps26
  go_wp2_with fail
  refine (kind_is t ht w hg hk).mono ?_
  rintro e w1 ⟨rfl, hO⟩
  go_wp2_with fail
  refine (Tryz.strings_Contains_one t 39 w1).mono ?_
  rintro e w2 ⟨rfl, rfl⟩
  go_wp2
  go_ret
  exact ⟨rfl, hO⟩

set_option maxHeartbeats 400000 in
theorem plain_var (t : ByteArray) (ht : t.size ≤ 140737488355328) (w : World) (hg : Gl w) (hk : Hid (Lx.kind t.data.toList = 4)) :
    Calls Tryz.prog 26 #[.string t] w fun e w' => e = .returned (.bool true) ∧ Old w w' := by
  go_enter Tryz.func26, Tryz.ntmps26
  go_wp2_with fail
  refine (kind_is t ht w hg hk).mono ?_
  rintro e w1 ⟨rfl, hO⟩
  go_wp2
  go_ret
  exact ⟨rfl, hO⟩

set_option maxHeartbeats 400000 in
theorem plain_none (t : ByteArray) (ht : t.size ≤ 140737488355328) (w : World) (hg : Gl w) {k : Int} (hk : Hid (Lx.kind t.data.toList = k)) (h2 : (k == 2) = false) (h3 : (k == 3) = false) (h4 : (k == 4) = false) :
    Calls Tryz.prog 26 #[.string t] w fun e w' => e = .returned (.bool false) ∧ Old w w' := by
  go_enter Tryz.func26, Tryz.ntmps26
  go_wp2_with fail
  refine (kind_is t ht w hg hk).mono ?_
  rintro e w1 ⟨rfl, hO⟩
  go_wp2
  go_ret
  exact ⟨rfl, hO⟩

def Lx.plain (l : List UInt8) : Bool := if Lx.kind l = 2 ∨ Lx.kind l = 3 then !(decide (0 ≤ Lib.indexByte l 39)) else Lx.kind l == 4

theorem plain_any (t : ByteArray) (ht : t.size ≤ 140737488355328) (w : World) (hg : Gl w) :
    Calls Tryz.prog 26 #[.string t] w fun e w' => e = .returned (.bool (Lx.plain t.data.toList)) ∧ Old w w' := by
  unfold Lx.plain
  by_cases h2 : Lx.kind t.data.toList = 2
  · rw [h2]; exact plain_name t ht w hg (Lib.hid h2)
  · by_cases h3 : Lx.kind t.data.toList = 3
    · rw [h3]; exact plain_con t ht w hg (Lib.hid h3)
    · rw [if_neg (by omega)]
      by_cases h4 : Lx.kind t.data.toList = 4
      · rw [h4]; exact plain_var t ht w hg (Lib.hid h4)
      · rw [beq_eq_false_iff_ne.2 h4]
        exact plain_none t ht w hg (Lib.hid rfl) (beq_eq_false_iff_ne.2 h2) (beq_eq_false_iff_ne.2 h3) (beq_eq_false_iff_ne.2 h4)
end Go.Proofs.YtdchnjijdkgfhaaGreatDoor
