/- All the tokens of a scanner's text. -/
import Derived.Test.YtdchnjijdkgfhaaGreatDoorAllD
import Derived.Maps.AppendAt
namespace Go.Proofs.YtdchnjijdkgfhaaGreatDoor
open Go.RowKit

/-- The cells of a list of tokens. -/
def tokCells (L : List Lx.Tok) : List Value := L.flatMap fun x => [.int .i64 x.kind, .int .i64 x.num, .string ⟨x.text.toArray⟩, .int .i64 x.pos]
theorem tokCells_snoc (L : List Lx.Tok) (x : Lx.Tok) : tokCells (L ++ [x]) = tokCells L ++ [.int .i64 x.kind, .int .i64 x.num, .string ⟨x.text.toArray⟩, .int .i64 x.pos] := by
  unfold tokCells
  rw [List.flatMap_append]
  rfl

theorem infoTok : (Tryz.prog.info? 41).map (fun i => (i.zero, i.size, i.bytes)) = some (some (.agg #[.int .i64 0, .int .i64 0, .string ⟨#[]⟩, .int .i64 0]), 4, 40) := by kernel_rfl

/-- A slice of tokens of one's own. -/
abbrev Tk (w : World) (b : Nat) (v : Value) (L : List Lx.Tok) : Prop := w.ownsRow (b + 1) 41 4 v L.length (tokCells L)

theorem own_keep {S : Nat → Prop} {w w' : World} {base : Nat} {e : TypeId} {size : Nat} {v : Value} {n : Nat} {xs : List Value} (h : w.ownsRow base e size v n xs) (hf : Fr S w w') (hn : ∀ k, v.ownBlock = some k → ¬ S k) : w'.ownsRow base e size v n xs := by
  obtain ⟨h1, h2⟩ := h
  refine ⟨h1, ?_⟩
  rcases h2 with h2 | ⟨g, cap, cur, hv, hg, hh, r⟩
  · exact Or.inl h2
  · subst hv
    exact Or.inr ⟨g, cap, cur, rfl, hg, hf.heap hh (hn g rfl), r⟩
theorem own_cells {w : World} {base : Nat} {e : TypeId} {size : Nat} {v : Value} {n : Nat} {xs : List Value} (h : w.ownsRow base e size v n xs) {k : Nat} (hk : v.ownBlock = some k) : base ≤ k ∧ ∃ cs, w.heap[k]? = some (.cells cs e (0, 0)) := by
  obtain ⟨_, h2⟩ := h
  rcases h2 with ⟨h2, _⟩ | ⟨g, cap, cur, hv, hg, hh, _⟩
  · subst h2; cases hk
  · subst hv
    cases hk
    exact ⟨hg, cur, hh⟩

theorem own_ne {w : World} {base : Nat} {e : TypeId} {size : Nat} {v : Value} {n : Nat} {xs : List Value} (h : w.ownsRow base e size v n xs) {k : Nat} (hk : v.ownBlock = some k) {o : Obj} (ho : w.heap[k]? = some o) (hne : ∀ cs, o ≠ .cells cs e (0, 0)) : False := by
  obtain ⟨_, cs, hcs⟩ := own_cells h hk
  rw [ho] at hcs
  cases hcs
  exact hne cs rfl

/-- The two codes of the loop over a function. -/
def rangeOf : Code → Option (Code × Code)
  | .rangeFunc _ _ a b => some (a, b)
  | .seq a b => (rangeOf a).orElse fun _ => rangeOf b
  | .block _ c => rangeOf c
  | .cond _ a b => (rangeOf a).orElse fun _ => rangeOf b
  | .loop c => rangeOf c
  | _ => none

/-- Between two rounds of reading all. -/
structure AllAt (w0 : World) (b R l D : Nat) (rec : LoopState → Option Code → Loop) (ts : List Lx.Tok) (W : World) : Prop where
  box : ∃ v, Blk W R #[v] 23 ∧ Tk W b v ts
  at_ : Blk W (R + 1) #[.int .i64 0] 3
  err : Blk W (R + 2) #[.int .i64 0] 24
  L : W.heap[l]? = some (.loop (rec .ready none))
  K : W.heap[D]? = some (.deferred (some []))
  below : Below b w0 W

theorem AllAt.frc {w0 : World} {b R l D : Nat} {rec : LoopState → Option Code → Loop} {ts : List Lx.Tok} {W W' : World} (h : AllAt w0 b R l D rec ts W) (hR : b < R) (hl : b < l) (hD : b < D) (hb : b < W.heap.size) (hf : Frc b W W') : AllAt w0 b R l D rec ts W' := by
  obtain ⟨v, h1, h2⟩ := h.box
  refine ⟨⟨v, hf.blk h1 (by omega) (by decide), own_keep h2 hf ?_⟩, hf.blk h.at_ (by omega) (by decide), hf.blk h.err (by omega) (by decide), hf.heap h.L (by omega) (by intro cs f e; cases e), hf.heap h.K (by omega) (by intro cs f e; cases e), h.below.trans (hf.below (Nat.le_of_lt hb))⟩
  intro k hk hS
  obtain ⟨hge, cs, hcs⟩ := own_cells h2 hk
  rcases hS with e | ⟨_, cs', f, hc⟩
  · omega
  · rw [hcs] at hc
    cases hc

theorem Fr.putObj {S : Nat → Prop} {a w : World} (h : Fr S a w) (l : Nat) (o : Obj) (hl : l < a.heap.size → S l) : Fr S a (w.putObj l o) :=
  ⟨h.os, h.tape, h.output, by rw [World.putObj_size]; exact h.size, fun k hk hn => (World.putObj_heap_other (fun e => hn (by subst e; exact hl hk))).trans (h.block k hk hn)⟩
theorem Blk.putObj {w : World} {b : Nat} {cs : Array Value} {T : TypeId} (h : Blk w b cs T) {l : Nat} (hl : b ≠ l) (o : Obj) : Blk (w.putObj l o) b cs T := (World.putObj_heap_other hl).trans h

/-- A scanner's words lie on if what changes is no map. -/
theorem St.keepO {S : Nat → Prop} {w w' : World} {b : Nat} {t : ByteArray} {p : Nat} {v : Value} (h : St w b t p v) (hf : Fr S w w') (hb : ¬ S b) (hn : ∀ k, S k → (∃ cs T f, w.heap[k]? = some (.cells cs T f)) ∨ (∃ L, w.heap[k]? = some (.loop L)) ∨ (∃ D, w.heap[k]? = some (.deferred D))) : St w' b t p v := by
  obtain ⟨r, h1, h2, h3⟩ := h
  refine ⟨r, h1.keep hf hb, ⟨h2.size, fun i hi => (h2.at_ i hi).imp id (fun ⟨m, h1, h2⟩ => ⟨m, h1, h2.keep hf (fun e => ?_)⟩)⟩, h3⟩
  rcases hn m e with ⟨cs, T, f, hc⟩ | ⟨L, hc⟩ | ⟨L, hc⟩
  · exact h2.ne hc rfl
  · obtain ⟨k, L', ⟨D, ⟨es, clock, hb, _⟩, _⟩, _⟩ := h2
    rw [hc] at hb
    cases hb
  · obtain ⟨k, L', ⟨D, ⟨es, clock, hb, _⟩, _⟩, _⟩ := h2
    rw [hc] at hb
    cases hb

theorem tok_cells (w : World) (T : TypeId) (l : Array Value) : ∀ (j : Nat) (u : Value), l.toList[j]? = some u → (w.alloc (.cells l T (0, 0))).cell? ((⟨w.heap.size, 0, none⟩ : Addr).add j) = some u := by
  intro j u hj
  have e : (⟨w.heap.size, 0, none⟩ : Addr).add j = ⟨w.heap.size, j, none⟩ := by
    cases j with
    | zero => rfl
    | succ j => simp [Addr.add]
  rw [e]
  exact (Blk.new w l T).cell (i := j) (v := u) (by simpa using hj)

attribute [local go_sem] Oper.semAt_some

set_option maxRecDepth 100000 in
set_option maxHeartbeats 2000000 in
theorem all_yield (n : Nat) (w0 : World) (fn : FuncId) (b R l D : Nat) (hR : b < R) (hl : R + 2 < l) (hD : R + 2 < D) (hDl : D ≠ l) (h6 : 6 ≤ b) (A B : Code) (hAB : rangeOf (Tryz.f33.body.getD .skip) = some (A, B)) (tm : Array Value)
    (f0 f1 f2 f3 f5 f6 f7 f8 f9 f10 f11 f12 f13 f14 f15 f16 f17 f18 f19 f20 f21 f22 f23 f24 : Value) (htm : tm = #[f0, f1, f2, f3, .pointer (some ⟨R, 0, none⟩), f5, f6, f7, f8, f9, f10, f11, f12, f13, f14, f15, f16, f17, f18, f19, f20, f21, f22, f23, f24])
    (rec : LoopState → Option Code → Loop) (hrec : rec = fun st pe => { state := st, pending := pe, fn, tmps := tm, params := #[19], assign := A, body := B, defers := D })
    (x : Lx.Tok) (ts : List Lx.Tok) (t : ByteArray) (q : Nat) (u : Value) (C : List (Nat × Nat)) (W : World) (hts : ts.length ≤ 400000)
    (h : AllAt w0 b R l D rec ts W) (hS : St W b t q u) (hC : Cm W b u C) (hG : Gl W) :
    YieldAt Fence.wide n Tryz.prog l #[tkV x] W fun e W' => e = .returned (.bool true) ∧ AllAt w0 b R l D rec (ts ++ [x]) W' ∧ St W' b t q u ∧ Cm W' b u C ∧ Gl W' := by
  obtain ⟨v, hv, hrow⟩ := h.box
  have hL := h.L
  have hL0 := hL
  rw [hrec] at hL0
  refine ⟨fn, _, A, B, run_yield (P := Tryz.prog) (args := #[tkV x]) hL0 rfl, roundIn_of_wpIn (F := Fence.wide) trivial ?_⟩
  have hAB' := hAB
  simp only [Tryz.f33, Option.getD_some, rangeOf, Option.orElse_none, Option.orElse_some, Option.some.injEq, Prod.mk.injEq] at hAB'
  obtain ⟨hA, hB⟩ := hAB'
  have hRl : R < W.heap.size := hv.lt
  have hll : l < W.heap.size := (Array.getElem?_eq_some_iff.1 hL).1
  rw [htm]
  simp only [Array.foldl, Array.zip, List.zip]
  rw [← hA]
  clear hAB hA hL0
  gi_wp2
  obtain ⟨W1, hW1⟩ : ∃ W1, W.alloc (.cells #[.int .i64 x.kind, .int .i64 x.num, .string ⟨x.text.toArray⟩, .int .i64 x.pos] 41) = W1 := ⟨_, rfl⟩
  rw [hW1]
  have nT : Blk W1 W.heap.size #[.int .i64 x.kind, .int .i64 x.num, .string ⟨x.text.toArray⟩, .int .i64 x.pos] 41 := by rw [← hW1]; exact Blk.new _ _ _
  have F1 : Old W W1 := by rw [← hW1]; exact (Old.refl W).alloc _
  have L1 : W1.heap[l]? = some (.loop (rec .ready none)) := F1.heap hL (by simp)
  clear hW1
  refine ⟨_, run_beginRound L1 (by rw [hrec]), ?_⟩
  have hre : Hid ({ { rec .ready none with state := .busy } with state := .ready, pending := none } = rec .ready none) := Lib.hid (by rw [hrec])
  clear htm hrec
  obtain ⟨W2, hW2⟩ : ∃ W2, W1.putObj l (.loop { rec .ready none with state := .busy }) = W2 := ⟨_, rfl⟩
  rw [hW2]
  have hlr : W.heap.size ≠ l := by omega
  have nT2 : Blk W2 W.heap.size #[.int .i64 x.kind, .int .i64 x.num, .string ⟨x.text.toArray⟩, .int .i64 x.pos] 41 := by rw [← hW2]; exact nT.putObj hlr _
  have F2 : Fr (fun k => k = l) W W2 := by rw [← hW2]; exact (Fr.old F1).putObj l _ (fun _ => rfl)
  have L2 : W2.heap[l]? = some (.loop { rec .ready none with state := .busy }) := by rw [← hW2]; exact World.putObj_heap_same (lt_of_block L1)
  clear hW2
  have hv2 : Blk W2 R #[v] 23 := hv.keep F2 (by omega)
  have hownl : ∀ k, v.ownBlock = some k → b < k ∧ k ≠ l ∧ k ≠ R := fun k hk => by
    obtain ⟨h1, cs, h2⟩ := own_cells hrow hk
    refine ⟨h1, fun e => ?_, fun e => ?_⟩
    · rw [e, hL] at h2; cases h2
    · rw [e] at h2; unfold Blk at hv; rw [hv] at h2; cases h2
  have hrow2 : Tk W2 b v ts := own_keep hrow F2 (fun k hk => (hownl k hk).2.1)
  obtain ⟨n0, n1, n2, n3, -⟩ := nT2.four
  have r0 := hv2.cell (i := 0) (v := v) rfl
  have hbs : b + 1 ≤ W2.heap.size := by have := hv2.lt; omega
  obtain ⟨i0, hi, hz0, hz1, hz2⟩ := info_parts infoTok
  rw [← hB]
  clear hB
  gi_wp2_with (first
    | (gi_at_builtin; refine wpListIn_append_own _ rfl _ _ 23 rfl (b + 1) 41 i0 (.agg #[.int .i64 0, .int .i64 0, .string ⟨#[]⟩, .int .i64 0]) 4 40 Tryz.underlying23 hi hz0 hz1 hz2 rfl (by decide) _ _ _ rfl (hrow2.alloc _) ⟨W2.heap.size, 0, none⟩ 1 1 [.int .i64 x.kind, .int .i64 x.num, .string ⟨x.text.toArray⟩, .int .i64 x.pos] rfl rfl (tok_cells _ _ _) (by intro u hu; simp at hu; rcases hu with rfl | rfl | rfl | rfl <;> rfl) (by unfold maxLen; omega) (by omega) (by simp; omega) ?_; intro v' w3 hown' hg3 hnil3
       have F3 : Fr (fun k => v.ownBlock = some k) W2 w3 := (((Fr.refl (fun k => v.ownBlock = some k) W2).alloc _)).grown hg3 (fun k e _ => e)
       have hv3 : Blk w3 R #[v] 23 := hv2.keep F3 (fun e => (hownl _ e).2.2 rfl)
       have r3 := hv3.cell (i := 0) (v := v) rfl
       have e3 := hv3.free 0
       obtain ⟨g', cap', hv'⟩ := own_form hown'
       subst hv')
    | fail)
  have hlw := own_cells hown' (k := g') rfl
  obtain ⟨w4, hw4⟩ : ∃ w4, w3.setCell ⟨R, 0, none⟩ (.slice (some ⟨g', 0, none⟩) (ts.length + 1) cap') = w4 := ⟨_, rfl⟩
  rw [hw4]
  have hL3 : w3.heap[l]? = some (.loop { rec .ready none with state := .busy }) := F3.heap L2 (fun e => (hownl _ e).2.1 rfl)
  have F4 : But R w3 w4 := by rw [← hw4]; exact (But.refl R w3).setCell ⟨R, 0, none⟩ (fun _ => rfl) _
  have hv4 : Blk w4 R #[.slice (some ⟨g', 0, none⟩) (ts.length + 1) cap'] 23 := by rw [← hw4]; exact hv3.set 0 _
  clear hw4
  have hL4 := F4.heap hL3 (by omega)
  obtain ⟨W', hW'⟩ : ∃ W', w4.putObj l (.loop (rec .ready none)) = W' := ⟨_, rfl⟩
  have F5 : Fr (fun k => k = R ∨ k = l) w3 W' := by rw [← hW']; exact (F4.mono (fun k _ e => .inl e)).putObj l _ (fun _ => .inr rfl)
  have F : Fr (fun k => k = l ∨ k = R ∨ v.ownBlock = some k) W W' := Fr.trans' (Fr.trans' (F2.mono (fun k _ e => .inl e)) F3 (fun k _ e => .inr (.inr e))) F5 (fun k _ e => e.elim (fun e => .inr (.inl e)) .inl)
  have hend := run_endRound (P := Tryz.prog) none hL4
  have hend' : (Instr.endRound l none).run Tryz.prog w4 = .ok (.bool true) W' := by rw [← hW', ← hre.out]; exact hend
  refine ⟨_, _, hend', rfl, ⟨⟨.slice (some ⟨g', 0, none⟩) (ts.length + 1) cap', ?_, ?_⟩, ?_, ?_, ?_, ?_, ?_⟩, ?_, ?_, ?_⟩
  · rw [← hW']; exact hv4.putObj (by omega) _
  · unfold Tk
    rw [tokCells_snoc, List.length_append, List.length_singleton]
    refine own_keep hown' F5 ?_
    intro k hk
    rintro (e | e)
    · subst e; exact own_ne hown' hk hv3 (by intro cs e; cases e)
    · subst e; exact own_ne hown' hk hL3 (by intro cs e; cases e)
  · refine h.at_.keep F ?_
    rintro (e | e | e)
    · omega
    · omega
    · exact own_ne hrow e h.at_ (by intro cs e; cases e)
  · refine h.err.keep F ?_
    rintro (e | e | e)
    · omega
    · omega
    · exact own_ne hrow e h.err (by intro cs e; cases e)
  · rw [← hW']; exact World.putObj_heap_same (lt_of_block hL4)
  · refine F.heap h.K ?_
    rintro (e | e | e)
    · omega
    · omega
    · exact own_ne hrow e h.K (by intro cs e; cases e)
  · refine h.below.trans (F.below (by omega) ?_)
    rintro k (e | e | e)
    · omega
    · omega
    · have := (hownl k e).1; omega
  · refine hS.keepO F ?_ ?_
    · rintro (e | e | e)
      · omega
      · omega
      · have := (hownl b e).1; omega
    · rintro k (e | e | e)
      · subst e; exact .inr (.inl ⟨_, hL⟩)
      · subst e; exact .inl ⟨_, _, _, hv⟩
      · obtain ⟨_, cs, hcs⟩ := own_cells hrow e
        exact .inl ⟨_, _, _, hcs⟩
  · refine hC.keep F ?_
    rintro k hk (e | e | e)
    · subst e; exact own_ne hC hk hL (by intro cs e; cases e)
    · subst e; exact own_ne hC hk hv (by intro cs e; cases e)
    · obtain ⟨_, cs, hcs⟩ := own_cells hrow e
      exact own_ne hC hk hcs (by intro cs e; cases e)
  · refine hG.keep F ?_
    rintro k (e | e | e)
    · omega
    · omega
    · have := (hownl k e).1; omega
end Go.Proofs.YtdchnjijdkgfhaaGreatDoor
