/- The texts of valid tokens, joined. -/
import Derived.Test.YtdchnjijdkgfhaaGreatDoorBuilder
namespace Lx
/-- Texts with a space between two. -/
def jn : List (List B) → List B
  | [] => []
  | [x] => x
  | x :: y :: r => x ++ 32 :: jn (y :: r)
theorem jn_snoc : ∀ (L : List (List B)) (x : List B), L ≠ [] → jn (L ++ [x]) = jn L ++ 32 :: x
  | [], x, h => absurd rfl h
  | [y], x, _ => rfl
  | y :: z :: r, x, _ => by
    have := jn_snoc (z :: r) x (by simp)
    show y ++ 32 :: jn (z :: r ++ [x]) = (y ++ 32 :: jn (z :: r)) ++ 32 :: x
    rw [this]
    simp
theorem jn_one (x : List B) : jn [x] = x := rfl
end Lx
namespace Go.Proofs.YtdchnjijdkgfhaaGreatDoor
open Go.RowKit

/-- A token as it comes in. -/
structure RT where
  k : Int
  n : Int
  s : ByteArray
  a : Int
abbrev RT.v (x : RT) : Value := tokV x.k x.n x.s x.a
def RT.valid (x : RT) : Bool := Lx.valid x.k x.n x.s.data.toList x.a
def RT.bytes (x : RT) : List UInt8 := x.s.data.toList
def joinR (L : List RT) : List UInt8 := if L.all RT.valid then Lx.jn (L.map RT.bytes) else []

/-- A list of tokens in memory. -/
def TlAt (w : World) (la : Option Addr) (L : List RT) : Prop := ∀ i (hi : i < L.length), ∃ g o, la = some ⟨g, o, none⟩ ∧ g < w.heap.size ∧
  w.cell? ⟨g, o + i * 4, none⟩ = some (.int .i64 L[i].k) ∧ w.cell? ⟨g, o + i * 4 + 1, none⟩ = some (.int .i64 L[i].n) ∧ w.cell? ⟨g, o + i * 4 + 2, none⟩ = some (.string L[i].s) ∧ w.cell? ⟨g, o + i * 4 + 3, none⟩ = some (.int .i64 L[i].a)

theorem TlAt.old {w w' : World} {la : Option Addr} {L : List RT} (h : TlAt w la L) (hf : Old w w') : TlAt w' la L := fun i hi => by
  obtain ⟨g, o, h0, hg, h1, h2, h3, h4⟩ := h i hi
  have he : w'.heap[g]? = w.heap[g]? := hf.block g hg (fun e => e)
  exact ⟨g, o, h0, Nat.lt_of_lt_of_le hg hf.size, (World.cell?_of_block he).trans h1, (World.cell?_of_block he).trans h2, (World.cell?_of_block he).trans h3, (World.cell?_of_block he).trans h4⟩

theorem IsB.keep {S : Nat → Prop} {w w' : World} {B b : Nat} {bs : List Value} (h : IsB B b bs w) (hf : Fr S w w') (hb : ¬ S b) (hn : ∀ k, S k → ∃ cs T f, w.heap[k]? = some (.cells cs T f) ∧ T ≠ 5) : IsB B b bs w' := by
  have one : ∀ p, Lib.BuilderAtF 73 5 B b p bs w → Lib.BuilderAtF 73 5 B b p bs w' := by
    rintro p ⟨hB, v, hbk, ⟨h1, h2⟩, hne⟩
    refine ⟨hB, v, hf.heap hbk hb, ⟨h1, ?_⟩, hne⟩
    rcases h2 with h2 | ⟨g, cap, cur, fz, hv, hg, hh, r⟩
    · exact .inl h2
    · refine .inr ⟨g, cap, cur, fz, hv, hg, hf.heap hh (fun e => ?_), r⟩
      obtain ⟨cs, T, f, hc, hT⟩ := hn g e
      rw [hh] at hc
      cases hc
      exact hT rfl
  exact h.imp (one _) (one _)

/-- What a writer of the builder may change. -/
def BldS (bb : Nat) (w : World) (k : Nat) : Prop := k = bb ∨ ∃ cs f, w.heap[k]? = some (.cells cs 5 f)
theorem Fr.oth {bb : Nat} {w w' : World} (hb : Below bb w w') (h : Oth bb w w') : Fr (BldS bb w) w w' :=
  ⟨hb.os, hb.tape, hb.output, hb.size, fun k hk hn => by
    obtain ⟨o, ho⟩ : ∃ o, w.heap[k]? = some o := ⟨_, Array.getElem?_eq_getElem hk⟩
    rw [ho]
    exact h k o ho (fun e => hn (.inl (by cases e; rfl))) (fun c fz e => hn (.inr ⟨c, fz, by rw [ho, e]⟩))⟩

theorem St.oth {bb : Nat} {w w' : World} {b : Nat} {t : ByteArray} {p : Nat} {v : Value} (h : St w b t p v) (hf : Fr (BldS bb w) w w') (hbb : b ≠ bb) (hbk : ∃ cs T f, w.heap[bb]? = some (.cells cs T f)) : St w' b t p v := by
  refine h.keep hf ?_ ?_
  · rintro (e | ⟨cs, f, hc⟩)
    · exact hbb e
    · obtain ⟨r, h1, _⟩ := h
      have := h1.blk
      unfold Blk at this
      rw [this] at hc
      cases hc
  · rintro k (e | ⟨cs, f, hc⟩)
    · subst e; exact hbk
    · exact ⟨cs, _, f, hc⟩
theorem Blk.oth {bb : Nat} {w w' : World} {k : Nat} {cs : Array Value} {T : TypeId} (h : Blk w k cs T) (hf : Fr (BldS bb w) w w') (hk : k ≠ bb) (hT : T ≠ 5) : Blk w' k cs T := by
  refine h.keep hf ?_
  rintro (e | ⟨cs', f, hc⟩)
  · exact hk e
  · unfold Blk at h
    rw [h] at hc
    cases hc
    exact hT rfl
theorem IsB.blk {w : World} {B b : Nat} {bs : List Value} (h : IsB B b bs w) : ∃ cs T f, w.heap[b]? = some (.cells cs T f) := by
  rcases h with ⟨_, v, hb, _⟩ | ⟨_, v, hb, _⟩ <;> exact ⟨_, _, _, hb⟩

theorem valid_cases (w : World) (b : Nat) (t : ByteArray) (p : Nat) (v : Value) (h : St w b t p v) (hg : Gl w) (h6 : 6 ≤ b) (x : RT) (hs : x.s.size ≤ 140737488355328) {r : Bool} (hr : Hid (x.valid = r)) :
    Calls Tryz.prog 38 #[.pointer (some ⟨b, 0, none⟩), x.v] w fun e w' => e = .returned (.bool r) ∧ But b w w' ∧ (r = true → ∃ t' q, St w' b t' q v) := by
  have hr' := hr.out
  unfold RT.valid Lx.valid at hr'
  cases hW : Lx.whole x.s.data.toList with
  | none =>
    rw [hW] at hr'
    simp only at hr'
    subst hr'
    exact (valid_none w b t p v h hg h6 x.k x.n x.a x.s hs hW).mono (fun e w' hp => ⟨hp.1, hp.2, fun e => by cases e⟩)
  | some y =>
    obtain ⟨k', n'⟩ := y
    rw [hW] at hr'
    simp only at hr'
    refine (valid_some w b t p v h hg h6 x.k x.n x.a x.s hs k' n' hW).mono (fun e w' hp => ?_)
    rw [hr'] at hp
    exact ⟨hp.1, hp.2.2, fun _ => ⟨_, _, hp.2.1⟩⟩

theorem jn_length (n : Nat) : ∀ (L : List (List UInt8)), (∀ x ∈ L, x.length ≤ n) → (Lx.jn L).length ≤ L.length * (n + 1)
  | [], _ => by simp [Lx.jn]
  | [x], h => by
    have := h x (by simp)
    simp only [Lx.jn, List.length_cons, List.length_nil]
    omega
  | x :: y :: r, h => by
    have h1 := jn_length n (y :: r) (fun z hz => h z (List.mem_cons_of_mem _ hz))
    have h2 := h x (by simp)
    have e : (Lx.jn (x :: y :: r)).length = x.length + ((Lx.jn (y :: r)).length + 1) := by
      show (x ++ 32 :: Lx.jn (y :: r)).length = _
      rw [List.length_append, List.length_cons]
    rw [e, List.length_cons (a := x), Nat.add_mul]
    omega

theorem joinR_bad {L : List RT} {i : Nat} (hi : i < L.length) (h : L[i].valid = false) : joinR L = [] := by
  unfold joinR
  rw [if_neg]
  intro e
  rw [List.all_eq_true] at e
  have := e L[i] (List.getElem_mem hi)
  rw [h] at this
  cases this

set_option maxRecDepth 100000 in
set_option maxHeartbeats 2000000 in
theorem join_any (L : List RT) (la : Option Addr) (lc : Nat) (w : World) (hg : Gl w) (hL : TlAt w la L) (hn : L.length ≤ 10000000000) (hs : ∀ x ∈ L, x.s.size ≤ 140737488355328) (hv : ∀ x ∈ L, x.valid = true → x.s.size ≤ 1000) :
    Calls Tryz.prog 16 #[.slice la L.length lc] w fun e w' => e = .returned (.string ⟨(joinR L).toArray⟩) ∧ Old w w' := by
  have h6 := hg.lt
  go_enter Tryz.func16, Tryz.ntmps16
  go_wp2_with fail
  refine (new_st ⟨#[]⟩ w (by decide)).mono ?_
  rintro e w1 ⟨rfl, hS, hC, hO⟩
  go_wp2_with fail
  have hb1 : w.heap.size ≤ w1.heap.size := hO.size
  have hlt1 : w.heap.size < w1.heap.size := hS.lt
  have hB0 : IsB w1.heap.size w1.heap.size [] (w1.alloc (.cells #[.pointer none, .slice none 0 0] 73)) := by
    refine .inl ⟨Nat.le_refl _, .slice none 0 0, World.alloc_heap_new w1 _, ⟨rfl, .inl ⟨rfl, rfl⟩⟩, ?_⟩
    intro e
    cases e
  go_loopg [10] L.length (fun g x wr => ∃ (i : Nat) (t : ByteArray) (q : Nat), g = L.length - i ∧ i ≤ L.length ∧ x = .int .i64 i ∧ (∀ y ∈ L.take i, y.valid = true) ∧ IsB w1.heap.size w1.heap.size (Lib.byteCells (Lx.jn ((L.take i).map RT.bytes))) wr ∧ St wr w.heap.size t q (.slice none 0 0) ∧ Old w wr ∧ w1.heap.size < wr.heap.size)
  case atStart =>
    exact ⟨0, ⟨#[]⟩, 0, rfl, Nat.zero_le _, rfl, by simp, hB0, hS.alloc _, hO.alloc _, by simp⟩
  case round =>
    obtain ⟨i, t, q, hgk, hi, rfl, hval, hB, hSt, hOr, hwr⟩ := hrel
    have HG := Lib.hid hgk
    clear hgk
    by_cases hlt : i < L.length
    · have hd : decide ((i : Int) < (L.length : Int)) = true := by simp only [decide_eq_true_eq]; omega
      obtain ⟨g, o, rfl, hgl, x0, x1, x2, x3⟩ := (hL.old hOr) i hlt
      obtain ⟨x, hx⟩ : ∃ x, L[i] = x := ⟨_, rfl⟩
      have hmem : x ∈ L := hx ▸ List.getElem_mem hlt
      have hsz := hs x hmem
      rw [hx] at x0 x1 x2 x3
      have htk : L.take (i + 1) = L.take i ++ [x] := by rw [← hx, List.take_append_getElem hlt]
      have hjl : (Lx.jn ((L.take i).map RT.bytes)).length ≤ i * 1001 := by
        have := jn_length 1000 ((L.take i).map RT.bytes) (fun z hz => by
          obtain ⟨y, hy, rfl⟩ := List.mem_map.1 hz
          have h1 := hv y (List.mem_of_mem_take hy) (hval y hy)
          unfold RT.bytes
          rw [Array.length_toList]
          exact h1)
        rw [List.length_map, List.length_take, Nat.min_eq_left hi] at this
        exact this
      have HJ := Lib.hid (show i * 1001 ≤ 100000000000000 by omega)
      have HJL := Lib.hid hjl
      have HI := Lib.hid hlt
      have HN := Lib.hid hn
      have hwr' : Hid (wrap64 ((i : Int) + 1) = (i : Int) + 1) := Lib.hid (IntWalk.wrap64_in _ (by omega))
      clear hjl hn hi
      cases hr : x.valid
      · have HR := Lib.hid hr
        clear hr
        go_wp2_with fail
        refine (valid_cases _ w.heap.size t q _ (hSt.alloc _) ((hg.old hOr).alloc _) h6 x hsz HR).mono ?_
        rintro e w2 ⟨rfl, f2, -⟩
        have hO2 : Old w w2 := Old.but' (hOr.alloc _) (Nat.le_refl _) f2
        have hbad := joinR_bad hlt (by rw [hx]; exact HR.out)
        go_wp2
        refine bodyPost_ret (v := .string ⟨#[]⟩) (by simp [results, Tryz.results16, go_sem]) rfl ⟨by rw [hbad], hO2⟩
      · have HR := Lib.hid hr
        have hxs := hv x hmem hr
        clear hr
        go_wp2_with fail
        refine (valid_cases _ w.heap.size t q _ (hSt.alloc _) ((hg.old hOr).alloc _) h6 x hsz HR).mono ?_
        rintro e w2 ⟨rfl, f2, hst2⟩
        obtain ⟨t', q', hS2⟩ := hst2 rfl
        clear hst2
        have hO2 : Old w w2 := Old.but' (hOr.alloc _) (Nat.le_refl _) f2
        have hB2 : IsB w1.heap.size w1.heap.size (Lib.byteCells (Lx.jn ((L.take i).map RT.bytes))) w2 := by
          refine (hB.keep ((Old.refl wr).alloc _) (by simp) (fun k e => e.elim)).keep f2 (by omega) ?_
          rintro k rfl
          obtain ⟨r, hr1, _⟩ := (hSt.alloc (.cells #[.int .i64 x.k, .int .i64 x.n, .string x.s, .int .i64 x.a] 41 (0, 0)))
          exact ⟨_, _, _, hr1.blk, by decide⟩
        have kT : Blk w2 wr.heap.size #[.int .i64 x.k, .int .i64 x.n, .string x.s, .int .i64 x.a] 41 := (Blk.new' rfl _ _).keep f2 (by omega)
        have hz2 : w1.heap.size ≤ w2.heap.size := by have := f2.size; simp at this; omega
        have hvn : ∀ y ∈ L.take (i + 1), y.valid = true := by
          intro y hy
          rw [htk, List.mem_append] at hy
          rcases hy with hy | hy
          · exact hval y hy
          · simp at hy; subst hy; exact HR.out
        have HTK := Lib.hid htk
        clear htk
        cases i with
        | zero =>
          obtain ⟨c0, c1, c2, c3, -⟩ := kT.four
          go_wp2_with fail
          refine (writeString_any w1.heap.size w1.heap.size _ x.s _ hB2 (by simp [Lib.byteCells, Lx.jn]; omega) hz2).mono ?_
          rintro e w3 ⟨rfl, hB3, hb3, ho3⟩
          have F3 := Fr.oth hb3 ho3
          have hS3 := hS2.oth F3 (by omega) hB2.blk
          have hO3 : Old w w3 := hO2.below (hb3.mono hb1)
          have hz3 : w1.heap.size < w3.heap.size := by have := hb3.size; have := f2.size; simp at this; omega
          have HH := Lib.hid hvn
          clear c0 c1 c2 c3 hz2 hxs hsz hmem hwr hlt1 hb1 hd x0 x1 x2 x3
          go_wp2
          go_roundg (L.length - (0 + 1))
          case measure => have := HG.out; have := HI.out; omega
          case rel =>
            refine ⟨0 + 1, _, _, rfl, HI.out, rfl, HH.out, .inr ?_, hS3, hO3, hz3⟩
            rw [HTK.out]
            simpa [Lx.jn, RT.bytes, Lib.byteCells, Lib.strCells] using hB3
        | succ i =>
          obtain ⟨c0, c1, c2, c3, -⟩ := kT.four
          have hpos : decide (0 < ((i + 1 : Nat) : Int)) = true := by simp only [decide_eq_true_eq]; omega
          go_wp2_with fail
          refine (writeByte_any w1.heap.size w1.heap.size _ 32 _ hB2 (by rw [Lib.byteCells_length]; have := HJL.out; have := HJ.out; omega) hz2).mono ?_
          rintro e w3 ⟨rfl, hB3, hb3, ho3⟩
          have F3 := Fr.oth hb3 ho3
          have hS3 := hS2.oth F3 (by omega) hB2.blk
          have kT3 := kT.oth F3 (by omega) (by decide)
          have hO3 : Old w w3 := hO2.below (hb3.mono hb1)
          have hz3 : w1.heap.size ≤ w3.heap.size := by have := hb3.size; omega
          clear c0 c1 c2 c3
          obtain ⟨c0, c1, c2, c3, -⟩ := kT3.four
          go_wp2_with fail
          refine (writeString_any w1.heap.size w1.heap.size _ x.s _ (.inr hB3) (by rw [List.length_append, Lib.byteCells_length, List.length_singleton]; have := HJL.out; have := HJ.out; omega) hz3).mono ?_
          rintro e w4 ⟨rfl, hB4, hb4, ho4⟩
          have F4 := Fr.oth hb4 ho4
          have hS4 := hS3.oth F4 (by omega) (IsB.blk (.inr hB3))
          have hO4 : Old w w4 := hO3.below (hb4.mono hb1)
          have hz4 : w1.heap.size < w4.heap.size := by have := hb3.size; have := hb4.size; have := f2.size; simp at this; omega
          have HH := Lib.hid hvn
          clear c0 c1 c2 c3 hz2 hz3 hxs hsz hmem hwr hlt1 hb1 hd x0 x1 x2 x3 hpos
          go_wp2
          go_roundg (L.length - (i + 1 + 1))
          case measure => have := HG.out; have := HI.out; omega
          case rel =>
            refine ⟨i + 1 + 1, _, _, rfl, HI.out, by have := hwr'.out; simpa using this, HH.out, .inr ?_, hS4, hO4, hz4⟩
            rw [HTK.out, List.map_append, List.map_cons, List.map_nil, Lx.jn_snoc _ _ (by
              intro e
              have := congrArg List.length e
              rw [List.length_map, List.length_take, List.length_nil] at this
              have := HI.out
              omega)]
            rw [show Lib.byteCells (Lx.jn ((L.take (i + 1)).map RT.bytes) ++ 32 :: x.bytes) = Lib.byteCells (Lx.jn ((L.take (i + 1)).map RT.bytes)) ++ [.int .u8 32] ++ Lib.strCells x.s from by
              simp [Lib.byteCells, Lib.strCells, RT.bytes]]
            exact hB4
    · have hd : decide ((i : Int) < (L.length : Int)) = false := by simp only [decide_eq_false_iff_not]; omega
      have hin : i = L.length := by omega
      subst hin
      rw [List.take_length] at hval hB
      have hall : joinR L = Lx.jn (L.map RT.bytes) := by
        unfold joinR
        rw [if_pos (List.all_eq_true.2 hval)]
      have HA := Lib.hid hall
      clear hall hlt hi
      go_wp2_with fail
      refine (Tryz.Builder_String_any_k w1.heap.size w1.heap.size _ wr hB (Nat.le_of_lt hwr)).mono ?_
      rintro e w2 ⟨rfl, -, hb2, -⟩
      have hO2 : Old w w2 := hOr.below (hb2.mono hb1)
      go_wp2
      go_ret
      exact ⟨by rw [HA.out]; rfl, hO2⟩
end Go.Proofs.YtdchnjijdkgfhaaGreatDoor
