/- Integers: how they are written, and which one a text is. -/
import Derived.Test.YtdchnjijdkgfhaaGreatDoorName
import Derived.Test.YtdchnjijdkgfhaaGreatDoorShelf
import Derived.Lib.SmallJoins
namespace Go.Proofs.YtdchnjijdkgfhaaGreatDoor
open Go.RowKit

/-- What the library's tables and errors hold: the world has them. -/
structure Gl (w : World) : Prop where
  lt : 6 ≤ w.heap.size
  tab : Lib.TabIs Tryz.prog w "internal/strconv.uint64pow10" .u64 Lib.pow10Tab
  syn : ∃ tp p, w.var? Tryz.prog "strconv.ErrSyntax" = some #[.iface tp p]
  ran : ∃ tp p, w.var? Tryz.prog "strconv.ErrRange" = some #[.iface tp p]

theorem glob_tab : Tryz.prog.globalNamed "internal/strconv.uint64pow10" = some 3 := by kernel_rfl
theorem glob_syn : Tryz.prog.globalNamed "strconv.ErrSyntax" = some 1 := by kernel_rfl
theorem glob_ran : Tryz.prog.globalNamed "strconv.ErrRange" = some 2 := by kernel_rfl

theorem Gl.below {w w' : World} (h : Gl w) (hb : Below 6 w w') : Gl w' := by
  obtain ⟨tp, p, h1⟩ := h.syn
  obtain ⟨tq, q, h2⟩ := h.ran
  exact ⟨Nat.le_trans h.lt hb.size, var?_below hb glob_tab (by decide) h.tab, ⟨tp, p, var?_below hb glob_syn (by decide) h1⟩, ⟨tq, q, var?_below hb glob_ran (by decide) h2⟩⟩
theorem Gl.keep {S : Nat → Prop} {w w' : World} (h : Gl w) (hf : Fr S w w') (hs : ∀ k, S k → 6 ≤ k) : Gl w' := h.below (hf.below h.lt hs)
theorem Gl.old {w w' : World} (h : Gl w) (hf : Old w w') : Gl w' := h.keep hf (fun _ e => e.elim)
theorem Gl.but {w w' : World} {b : Nat} (h : Gl w) (hf : But b w w') (hb : 6 ≤ b) : Gl w' := h.keep hf (fun k e => e ▸ hb)
theorem Gl.alloc {w : World} (h : Gl w) (o : Obj) : Gl (w.alloc o) := h.old ((Old.refl w).alloc o)

theorem old_grow (w : World) (k : Nat) (os : Array Obj) : Old w (Go.Sort.grow (w.drewN k) os) :=
  ⟨rfl, rfl, rfl, by simp [Go.Sort.grow, World.drewN], fun i hi _ => by
    show (w.heap ++ os)[i]? = w.heap[i]?
    rw [Array.getElem?_append_left hi]⟩

theorem itoa_old (n : Int) (h0 : -9223372036854775808 ≤ n) (h1 : n ≤ 9223372036854775807) (w : World) (hg : Gl w) :
    Calls Tryz.prog 51 #[.int .i64 n] w fun e w' => e = .returned (.string ⟨(Lib.itoa n).toArray⟩) ∧ Old w w' :=
  (Tryz.strconv_Itoa n h0 h1 w hg.tab).mono (fun e w' ⟨he, k, os, hw⟩ => ⟨he, hw ▸ old_grow w k os⟩)

theorem cut_neg (n : Int) (hn : n < 0) (w : World) :
    Calls Tryz.prog 46 #[.string ⟨(Lib.itoa n).toArray⟩, .string ⟨#[45]⟩] w fun e w' => e = .returned (.tuple #[.string ⟨(Lib.decDigits n.natAbs).toArray⟩, .bool true]) ∧ w' = w := by
  have h := Tryz.strings_CutPrefix ⟨(Lib.itoa n).toArray⟩ ⟨#[45]⟩ w
  have e1 : Lib.itoa n = 45 :: Lib.decDigits n.natAbs := by unfold Lib.itoa; rw [if_pos hn]
  have e2 : Lib.hasPrefix (Lib.itoa n) [45] = true := by rw [e1]; simp [Lib.hasPrefix]
  have e3 : Lib.trimPrefix (Lib.itoa n) [45] = Lib.decDigits n.natAbs := by unfold Lib.trimPrefix; rw [if_pos e2, e1]; rfl
  simp only [e2, e3] at h
  exact h

/-- A digit is no sign. -/
theorem decDigits_digit (u : Nat) : ∀ c ∈ Lib.decDigits u, 48 ≤ c.toNat ∧ c.toNat ≤ 57 := by
  induction u using Nat.strongRecOn with
  | _ u ih =>
    intro c hc
    rw [Lib.decDigits] at hc
    split at hc
    · simp only [List.mem_singleton] at hc
      subst hc
      rw [UInt8.toNat_ofNat']
      omega
    · rw [List.mem_append] at hc
      rcases hc with hc | hc
      · exact ih (u / 10) (by omega) c hc
      · simp only [List.mem_singleton] at hc
        subst hc
        rw [UInt8.toNat_ofNat']
        omega

theorem decDigits_ne (u : Nat) : Lib.decDigits u ≠ [] := by
  rw [Lib.decDigits]
  split <;> simp

theorem decDigits_prefix (u : Nat) (c : UInt8) (hc : c.toNat < 48 ∨ 57 < c.toNat) : Lib.hasPrefix (Lib.decDigits u) [c] = false := by
  have hd := decDigits_digit u
  cases h : Lib.decDigits u with
  | nil => rfl
  | cons a r =>
    have := hd a (by rw [h]; simp)
    simp only [Lib.hasPrefix, List.isPrefixOf, Bool.and_true]
    rw [beq_eq_false_iff_ne]
    rintro rfl
    omega

theorem cut_pos (n : Int) (hn : ¬ n < 0) (w : World) :
    Calls Tryz.prog 46 #[.string ⟨(Lib.itoa n).toArray⟩, .string ⟨#[45]⟩] w fun e w' => e = .returned (.tuple #[.string ⟨(Lib.decDigits n.toNat).toArray⟩, .bool false]) ∧ w' = w := by
  have h := Tryz.strings_CutPrefix ⟨(Lib.itoa n).toArray⟩ ⟨#[45]⟩ w
  have e1 : Lib.itoa n = Lib.decDigits n.toNat := by unfold Lib.itoa; rw [if_neg hn]
  have e2 : Lib.hasPrefix (Lib.itoa n) [45] = false := by rw [e1]; exact decDigits_prefix _ _ (.inl (by decide))
  have e3 : Lib.trimPrefix (Lib.itoa n) [45] = Lib.decDigits n.toNat := by unfold Lib.trimPrefix; rw [if_neg (by simp [e2]), e1]
  simp only [e2, e3] at h
  exact h

theorem nDigits_le : ∀ (k u : Nat), u < 10 ^ (k + 1) → Lib.nDigits u ≤ k + 1
  | 0, u, h => by rw [Lib.nDigits_small (by simpa using h)]; exact Nat.le_refl _
  | k + 1, u, h => by
    by_cases hu : u < 10
    · rw [Lib.nDigits_small hu]; omega
    · rw [Lib.nDigits_big hu]
      have := nDigits_le k (u / 10) (by rw [Nat.pow_succ] at h; omega)
      omega
theorem decDigits_len (u : Nat) (h : u ≤ 9223372036854775808) : (Lib.decDigits u).length ≤ 20 := by
  rw [Lib.decDigits_length]
  exact nDigits_le 19 u (Nat.lt_of_le_of_lt h (by decide))

set_option maxHeartbeats 400000 in
theorem Digits_any (n : Int) (h0 : -9223372036854775808 ≤ n) (h1 : n ≤ 9223372036854775807) (w : World) (hg : Gl w) :
    Calls Tryz.prog 31 #[.int .i64 n] w fun e w' => e = .returned (.string ⟨(Lx.digits n).toArray⟩) ∧ Old w w' := by
  by_cases hn : n < 0
  · have hd : Lx.digits n = 126 :: Lib.decDigits n.natAbs := by unfold Lx.digits; rw [if_pos hn]
    have hl := decDigits_len n.natAbs (by omega)
    rw [hd]
    clear hd
    have hl2 : ¬ 9223372036854775807 < 1 + (Lib.decDigits n.natAbs).length := by omega
    go_enter Tryz.func31, Tryz.ntmps31
    go_wp2_with (first | (go_at_call 51; refine (itoa_old n h0 h1 _ hg).mono ?_; rintro e w1 ⟨rfl, f1⟩) | (go_at_call 46; refine (cut_neg n hn _).mono ?_; rintro e w2 ⟨rfl, rfl⟩))
    go_ret
    exact ⟨rfl, f1⟩
  · have hd : Lx.digits n = Lib.decDigits n.toNat := by unfold Lx.digits; rw [if_neg hn]
    rw [hd]
    clear hd
    have HC := Lib.hid (cut_pos n hn)
    clear hn
    go_enter Tryz.func31, Tryz.ntmps31
    go_wp2_with fail
    refine (itoa_old n h0 h1 _ hg).mono ?_
    rintro e w1 ⟨rfl, f1⟩
    go_wp2_with fail
    refine (HC.out _).mono ?_
    rintro e w2 ⟨rfl, rfl⟩
    go_wp2
    go_ret
    exact ⟨rfl, f1⟩

/-- What Atoi makes of a text: an integer, or an error that is not nil. -/
theorem atoi_ok (s : ByteArray) (hs : s.size ≤ 140737488355330) (v : Int) (h : Lib.atoiAll s.data.toList = .ok v) (w : World) :
    Calls Tryz.prog 47 #[.string s] w fun e w' => e = .returned (.tuple #[.int .i64 v, .nilIface]) ∧ Old w w' :=
  (Tryz.strconv_Atoi_ok s (by omega) v h w).mono (fun e w' ⟨he, hw⟩ => ⟨he, by
    rcases hw with rfl | ⟨t, rfl⟩
    · exact Old.refl _
    · exact Old.of_below (Joins.below_bytesWorld _ _ _ _ (Nat.le_refl _))⟩)

/-- An error that is not nil. -/
def IsErr (n : Int) (e : Ending) : Prop := ∃ T p, e = .returned (.tuple #[.int .i64 n, .iface T p])

theorem atoi_err (s : ByteArray) (hs : s.size ≤ 140737488355330) (h : ∀ v, Lib.atoiAll s.data.toList ≠ .ok v) (w : World) (hg : Gl w) :
    ∃ n, Calls Tryz.prog 47 #[.string s] w fun e w' => IsErr n e ∧ Old w w' := by
  cases hc : Lib.atoiAll s.data.toList
  · exact absurd hc (h _)
  · obtain ⟨tp, p, hv⟩ := hg.syn
    exact ⟨0, (Tryz.strconv_Atoi_syntax_var s (by omega) hc tp p w hv).mono (fun e w' ⟨N, he, _, _, hb⟩ => ⟨⟨_, _, he⟩, Old.of_below hb⟩)⟩
  · obtain ⟨tp, p, hv⟩ := hg.ran
    exact ⟨_, (Tryz.strconv_Atoi_range_var s (by omega) hc tp p w hv).mono (fun e w' ⟨N, he, _, _, hb⟩ => ⟨⟨_, _, he⟩, Old.of_below hb⟩)⟩

theorem cut_tilde (s : ByteArray) (r : List UInt8) (hs : s.data.toList = 126 :: r) (w : World) :
    Calls Tryz.prog 46 #[.string s, .string ⟨#[126]⟩] w fun e w' => e = .returned (.tuple #[.string ⟨r.toArray⟩, .bool true]) ∧ w' = w := by
  have h := Tryz.strings_CutPrefix s ⟨#[126]⟩ w
  have e2 : Lib.hasPrefix s.data.toList [126] = true := by rw [hs]; simp [Lib.hasPrefix]
  have e3 : Lib.trimPrefix s.data.toList [126] = r := by unfold Lib.trimPrefix; rw [if_pos e2, hs]; rfl
  simp only [e2, e3] at h
  exact h
theorem cut_plain (s : ByteArray) (hs : Lib.hasPrefix s.data.toList [126] = false) (w : World) :
    Calls Tryz.prog 46 #[.string s, .string ⟨#[126]⟩] w fun e w' => e = .returned (.tuple #[.string s, .bool false]) ∧ w' = w := by
  have h := Tryz.strings_CutPrefix s ⟨#[126]⟩ w
  have e3 : Lib.trimPrefix s.data.toList [126] = s.data.toList := by unfold Lib.trimPrefix; rw [if_neg (by simp [hs])]
  simp only [hs, e3] at h
  exact h

/-- The two results of Number. -/
def numV (o : Option Int) : Value := match o with
  | some n => .tuple #[.int .i64 n, .int .i64 0]
  | none => .tuple #[.int .i64 0, .int .i64 13]

set_option maxHeartbeats 800000 in
theorem Number_tilde_err (s : ByteArray) (hs : s.size ≤ 140737488355328) (r : List UInt8) (hr : Hid (s.data.toList = 126 :: r)) (hlen : r.length + 1 ≤ 140737488355328) (w : World) (hg : Gl w) (n : Int) (hE : Hid (Calls Tryz.prog 47 #[.string (⟨#[45]⟩ ++ ⟨r.toArray⟩ : ByteArray)] w fun e w' => IsErr n e ∧ Old w w')) :
    Calls Tryz.prog 28 #[.string s] w fun e w' => e = .returned (.tuple #[.int .i64 0, .int .i64 13]) ∧ Old w w' := by
  have hl2 : ¬ 9223372036854775807 < 1 + r.length := by omega
  go_enter Tryz.func28, Tryz.ntmps28
  go_wp2_with fail
  refine (cut_tilde s r hr.out _).mono ?_
  rintro e w2 ⟨rfl, rfl⟩
  go_wp2_with fail
  refine hE.out.mono ?_
  rintro e w1 ⟨⟨T, q, rfl⟩, f1⟩
  go_wp2
  go_ret2
  exact ⟨rfl, f1⟩

set_option maxHeartbeats 800000 in
theorem Number_tilde_eq (s : ByteArray) (hs : s.size ≤ 140737488355328) (r : List UInt8) (hr : Hid (s.data.toList = 126 :: r)) (hlen : r.length + 1 ≤ 140737488355328) (w : World) (hg : Gl w) (n : Int) (hE : Hid (Calls Tryz.prog 47 #[.string (⟨#[45]⟩ ++ ⟨r.toArray⟩ : ByteArray)] w fun e w' => e = .returned (.tuple #[.int .i64 n, .nilIface]) ∧ Old w w')) (h0 : -9223372036854775808 ≤ n) (h1 : n ≤ 9223372036854775807) (hd : Hid (Lx.digits n = s.data.toList)) :
    Calls Tryz.prog 28 #[.string s] w fun e w' => e = .returned (.tuple #[.int .i64 n, .int .i64 0]) ∧ Old w w' := by
  have hl2 : ¬ 9223372036854775807 < 1 + r.length := by omega
  have hq : (Lx.digits n == s.toList) = true := by
    rw [Lib.toList_data]
    simpa using hd.out
  go_enter Tryz.func28, Tryz.ntmps28
  go_wp2_with fail
  refine (cut_tilde s r hr.out _).mono ?_
  rintro e w2 ⟨rfl, rfl⟩
  go_wp2_with fail
  refine hE.out.mono ?_
  rintro e w1 ⟨rfl, f1⟩
  go_wp2_with fail
  refine (Digits_any n h0 h1 _ (hg.old f1)).mono ?_
  rintro e w3 ⟨rfl, f3⟩
  go_wp2
  go_ret2
  exact ⟨rfl, f1.trans f3⟩

set_option maxHeartbeats 800000 in
theorem Number_tilde_ne (s : ByteArray) (hs : s.size ≤ 140737488355328) (r : List UInt8) (hr : Hid (s.data.toList = 126 :: r)) (hlen : r.length + 1 ≤ 140737488355328) (w : World) (hg : Gl w) (n : Int) (hE : Hid (Calls Tryz.prog 47 #[.string (⟨#[45]⟩ ++ ⟨r.toArray⟩ : ByteArray)] w fun e w' => e = .returned (.tuple #[.int .i64 n, .nilIface]) ∧ Old w w')) (h0 : -9223372036854775808 ≤ n) (h1 : n ≤ 9223372036854775807) (hd : Hid (Lx.digits n ≠ s.data.toList)) :
    Calls Tryz.prog 28 #[.string s] w fun e w' => e = .returned (.tuple #[.int .i64 0, .int .i64 13]) ∧ Old w w' := by
  have hl2 : ¬ 9223372036854775807 < 1 + r.length := by omega
  have hq : (Lx.digits n == s.toList) = false := by
    rw [Lib.toList_data]
    simpa using hd.out
  go_enter Tryz.func28, Tryz.ntmps28
  go_wp2_with fail
  refine (cut_tilde s r hr.out _).mono ?_
  rintro e w2 ⟨rfl, rfl⟩
  go_wp2_with fail
  refine hE.out.mono ?_
  rintro e w1 ⟨rfl, f1⟩
  go_wp2_with fail
  refine (Digits_any n h0 h1 _ (hg.old f1)).mono ?_
  rintro e w3 ⟨rfl, f3⟩
  go_wp2
  go_ret2
  exact ⟨rfl, f1.trans f3⟩

set_option maxHeartbeats 800000 in
theorem Number_plain_err (s : ByteArray) (hs : s.size ≤ 140737488355328) (hr : Hid (Lib.hasPrefix s.data.toList [126] = false)) (w : World) (hg : Gl w) (n : Int) (hE : Hid (Calls Tryz.prog 47 #[.string s] w fun e w' => IsErr n e ∧ Old w w')) :
    Calls Tryz.prog 28 #[.string s] w fun e w' => e = .returned (.tuple #[.int .i64 0, .int .i64 13]) ∧ Old w w' := by
  go_enter Tryz.func28, Tryz.ntmps28
  go_wp2_with fail
  refine (cut_plain s hr.out _).mono ?_
  rintro e w2 ⟨rfl, rfl⟩
  go_wp2_with fail
  refine hE.out.mono ?_
  rintro e w1 ⟨⟨T, q, rfl⟩, f1⟩
  go_wp2
  go_ret2
  exact ⟨rfl, f1⟩

set_option maxHeartbeats 800000 in
theorem Number_plain_eq (s : ByteArray) (hs : s.size ≤ 140737488355328) (hr : Hid (Lib.hasPrefix s.data.toList [126] = false)) (w : World) (hg : Gl w) (n : Int) (hE : Hid (Calls Tryz.prog 47 #[.string s] w fun e w' => e = .returned (.tuple #[.int .i64 n, .nilIface]) ∧ Old w w')) (h0 : -9223372036854775808 ≤ n) (h1 : n ≤ 9223372036854775807) (hd : Hid (Lx.digits n = s.data.toList)) :
    Calls Tryz.prog 28 #[.string s] w fun e w' => e = .returned (.tuple #[.int .i64 n, .int .i64 0]) ∧ Old w w' := by
  have hq : (Lx.digits n == s.toList) = true := by
    rw [Lib.toList_data]
    simpa using hd.out
  go_enter Tryz.func28, Tryz.ntmps28
  go_wp2_with fail
  refine (cut_plain s hr.out _).mono ?_
  rintro e w2 ⟨rfl, rfl⟩
  go_wp2_with fail
  refine hE.out.mono ?_
  rintro e w1 ⟨rfl, f1⟩
  go_wp2_with fail
  refine (Digits_any n h0 h1 _ (hg.old f1)).mono ?_
  rintro e w3 ⟨rfl, f3⟩
  go_wp2
  go_ret2
  exact ⟨rfl, f1.trans f3⟩

set_option maxHeartbeats 800000 in
theorem Number_plain_ne (s : ByteArray) (hs : s.size ≤ 140737488355328) (hr : Hid (Lib.hasPrefix s.data.toList [126] = false)) (w : World) (hg : Gl w) (n : Int) (hE : Hid (Calls Tryz.prog 47 #[.string s] w fun e w' => e = .returned (.tuple #[.int .i64 n, .nilIface]) ∧ Old w w')) (h0 : -9223372036854775808 ≤ n) (h1 : n ≤ 9223372036854775807) (hd : Hid (Lx.digits n ≠ s.data.toList)) :
    Calls Tryz.prog 28 #[.string s] w fun e w' => e = .returned (.tuple #[.int .i64 0, .int .i64 13]) ∧ Old w w' := by
  have hq : (Lx.digits n == s.toList) = false := by
    rw [Lib.toList_data]
    simpa using hd.out
  go_enter Tryz.func28, Tryz.ntmps28
  go_wp2_with fail
  refine (cut_plain s hr.out _).mono ?_
  rintro e w2 ⟨rfl, rfl⟩
  go_wp2_with fail
  refine hE.out.mono ?_
  rintro e w1 ⟨rfl, f1⟩
  go_wp2_with fail
  refine (Digits_any n h0 h1 _ (hg.old f1)).mono ?_
  rintro e w3 ⟨rfl, f3⟩
  go_wp2
  go_ret2
  exact ⟨rfl, f1.trans f3⟩

theorem conv_plain {l : List UInt8} (h : Lib.hasPrefix l [126] = false) : Lx.conv l = l := by
  cases l with
  | nil => rfl
  | cons c r =>
    have : ¬ c = 126 := by
      rintro rfl
      simp [Lib.hasPrefix] at h
    exact if_neg this

theorem number_some {l : List UInt8} {v : Int} (h : Lib.atoiAll (Lx.conv l) = .ok v) (hd : Lx.digits v = l) : Lx.number l = some v := by
  unfold Lx.number; rw [h]; simp only; rw [if_pos hd]
theorem number_ne {l : List UInt8} {v : Int} (h : Lib.atoiAll (Lx.conv l) = .ok v) (hd : Lx.digits v ≠ l) : Lx.number l = none := by
  unfold Lx.number; rw [h]; simp only; rw [if_neg hd]
theorem number_err {l : List UInt8} (h : ∀ v, Lib.atoiAll (Lx.conv l) ≠ .ok v) : Lx.number l = none := by
  unfold Lx.number
  split
  · rename_i n hn
    exact absurd hn (h n)
  · rfl

theorem Number_any (s : ByteArray) (hs : s.size ≤ 140737488355328) (w : World) (hg : Gl w) :
    Calls Tryz.prog 28 #[.string s] w fun e w' => e = .returned (numV (Lx.number s.data.toList)) ∧ Old w w' := by
  by_cases hp : Lib.hasPrefix s.data.toList [126] = false
  · have hc := conv_plain hp
    by_cases he : ∃ v, Lib.atoiAll s.data.toList = .ok v
    · obtain ⟨v, hv⟩ := he
      have hb := Lib.atoiAll_bounds hv
      by_cases hd : Lx.digits v = s.data.toList
      · rw [number_some (hc.symm ▸ hv) hd]
        exact Number_plain_eq s hs hp w hg v (atoi_ok s (by omega) v hv w) hb.1 hb.2 hd
      · rw [number_ne (hc.symm ▸ hv) hd]
        exact Number_plain_ne s hs hp w hg v (atoi_ok s (by omega) v hv w) hb.1 hb.2 hd
    · have he' : ∀ v, Lib.atoiAll s.data.toList ≠ .ok v := fun v hv => he ⟨v, hv⟩
      obtain ⟨n, hE⟩ := atoi_err s (by omega) he' w hg
      rw [number_err (hc.symm ▸ he')]
      exact Number_plain_err s hs hp w hg n hE
  · have hp' : Lib.hasPrefix s.data.toList [126] = true := by simpa using hp
    obtain ⟨r, hr⟩ : ∃ r, s.data.toList = 126 :: r := by
      cases h : s.data.toList with
      | nil => rw [h] at hp'; cases hp'
      | cons c r =>
        rw [h] at hp'
        simp [Lib.hasPrefix] at hp'
        exact ⟨r, by rw [hp']⟩
    have hlen : r.length + 1 ≤ 140737488355328 := by
      have : s.data.toList.length = r.length + 1 := by rw [hr]; rfl
      simp at this
      omega
    have hz : (⟨#[45]⟩ ++ ⟨r.toArray⟩ : ByteArray).data.toList = 45 :: r := by simp
    have hzs : (⟨#[45]⟩ ++ ⟨r.toArray⟩ : ByteArray).size ≤ 140737488355330 := by
      have : (⟨#[45]⟩ ++ ⟨r.toArray⟩ : ByteArray).data.toList.length = r.length + 1 := by rw [hz]; rfl
      simp only [Array.length_toList, ByteArray.size_data] at this
      omega
    have hc : Lx.conv s.data.toList = 45 :: r := by rw [hr]; rfl
    by_cases he : ∃ v, Lib.atoiAll (45 :: r) = .ok v
    · obtain ⟨v, hv⟩ := he
      have hb := Lib.atoiAll_bounds hv
      by_cases hd : Lx.digits v = s.data.toList
      · rw [number_some (hc.symm ▸ hv) hd]
        exact Number_tilde_eq s hs r hr hlen w hg v (atoi_ok _ hzs v (hz.symm ▸ hv) w) hb.1 hb.2 hd
      · rw [number_ne (hc.symm ▸ hv) hd]
        exact Number_tilde_ne s hs r hr hlen w hg v (atoi_ok _ hzs v (hz.symm ▸ hv) w) hb.1 hb.2 hd
    · have he' : ∀ v, Lib.atoiAll (45 :: r) ≠ .ok v := fun v hv => he ⟨v, hv⟩
      obtain ⟨n, hE⟩ := atoi_err _ hzs (hz.symm ▸ he') w hg
      rw [number_err (hc.symm ▸ he')]
      exact Number_tilde_err s hs r hr hlen w hg n hE
end Go.Proofs.YtdchnjijdkgfhaaGreatDoor
