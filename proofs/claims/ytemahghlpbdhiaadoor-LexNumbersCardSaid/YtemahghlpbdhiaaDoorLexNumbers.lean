/- LexNumbers, walked. -/
import Derived.Test.YtemahghlpbdhiaaDoorRefNum
namespace Go.Proofs.YtemahghlpbdhiaaDoor
open Go.RowKit

set_option maxRecDepth 100000 in
set_option maxHeartbeats 2000000 in
theorem lexNumbers_any (s : ByteArray) (n : Int) (hs : s.size ≤ 140737488355328) (h0 : -9223372036854775808 ≤ n) (h1 : n ≤ 9223372036854775807) (w : World) (hg : Gl w) :
    Calls Tryd.prog 3 #[.string s, .int .i64 n] w fun e w' => e = .returned (.bool true) ∧ Old w w' := by
  have hb : Lx.number (⟨(Lx.digits n).toArray⟩ : ByteArray).data.toList = some n := by
    show Lx.number (Lx.digits n).toArray.toList = _
    rw [List.toList_toArray]
    exact Lx.number_digits ⟨h0, h1⟩
  have hds : (⟨(Lx.digits n).toArray⟩ : ByteArray).size ≤ 140737488355328 := by
    show (Lx.digits n).toArray.size ≤ _
    rw [List.size_toArray]
    unfold Lx.digits
    split
    · have := decDigits_len n.natAbs (by omega)
      simp only [List.length_cons]; omega
    · have := decDigits_len n.toNat (by omega)
      omega
  have HB := Lib.hid hb
  have HDS := Lib.hid hds
  clear hb hds
  cases hN : Lx.number s.data.toList with
  | none =>
    have HN := Lib.hid hN
    clear hN
    go_enter Tryd.func3, Tryd.ntmps3
    go_wp2_with fail
    refine (sane_any w hg).mono ?_
    rintro e w1 ⟨rfl, hO⟩
    go_wp2_with fail
    (with_reducible refine (Number_any s hs w1 (hg.old hO)).mono ?_)
    rintro e w2 ⟨rfl, hO2⟩
    have hO' := hO.trans hO2
    clear hO hO2
    rw [HN.out]
    unfold numV
    go_wp2_with fail
    (with_reducible refine (refNumber_any s w2).mono ?_)
    rintro e w3 ⟨rfl, rfl⟩
    rw [HN.out]
    unfold numV
    go_wp2_with fail
    (with_reducible refine (Digits_any n h0 h1 w3 (hg.old hO')).mono ?_)
    rintro e w4 ⟨rfl, hO4⟩
    have hO4' := hO'.trans hO4
    clear hO' hO4
    go_wp2_with fail
    (with_reducible refine (Number_any _ HDS.out w4 (hg.old hO4')).mono ?_)
    rintro e w5 ⟨rfl, hO5⟩
    have hO5' := hO4'.trans hO5
    clear hO4' hO5
    rw [HB.out]
    unfold numV
    go_wp2_with fail
    (with_reducible refine (refDigits_any n h0 h1 w5).mono ?_)
    rintro e w6 ⟨rfl, rfl⟩
    go_wp2
    go_ret
    exact ⟨rfl, hO5'⟩
  | some v =>
    obtain ⟨⟨v0, v1⟩, hv⟩ := Lx.number_is hN
    have hvs : (⟨(Lx.digits v).toArray⟩ : ByteArray) = s := by
      apply ByteArray.ext
      show (Lx.digits v).toArray = s.data
      rw [hv, Array.toArray_toList]
    have HN := Lib.hid hN
    have HVS := Lib.hid hvs
    clear hN hv hvs
    go_enter Tryd.func3, Tryd.ntmps3
    go_wp2_with fail
    refine (sane_any w hg).mono ?_
    rintro e w1 ⟨rfl, hO⟩
    go_wp2_with fail
    (with_reducible refine (Number_any s hs w1 (hg.old hO)).mono ?_)
    rintro e w2 ⟨rfl, hO2⟩
    have hO' := hO.trans hO2
    clear hO hO2
    rw [HN.out]
    unfold numV
    go_wp2_with fail
    (with_reducible refine (refNumber_any s w2).mono ?_)
    rintro e w3 ⟨rfl, rfl⟩
    rw [HN.out]
    unfold numV
    go_wp2_with fail
    (with_reducible refine (Digits_any n h0 h1 w3 (hg.old hO')).mono ?_)
    rintro e w4 ⟨rfl, hO4⟩
    have hO4' := hO'.trans hO4
    clear hO' hO4
    go_wp2_with fail
    (with_reducible refine (Number_any _ HDS.out w4 (hg.old hO4')).mono ?_)
    rintro e w5 ⟨rfl, hO5⟩
    have hO5' := hO4'.trans hO5
    clear hO4' hO5
    rw [HB.out]
    unfold numV
    go_wp2_with fail
    (with_reducible refine (refDigits_any n h0 h1 w5).mono ?_)
    rintro e w6 ⟨rfl, rfl⟩
    go_wp2_with fail
    (with_reducible refine (Digits_any v v0 v1 w6 (hg.old hO5')).mono ?_)
    rintro e w7 ⟨rfl, hO7⟩
    rw [HVS.out]
    have hO7' := hO5'.trans hO7
    clear hO5' hO7
    go_wp2
    go_ret
    exact ⟨rfl, hO7'⟩
end Go.Proofs.YtemahghlpbdhiaaDoor
