/- All the tokens of a scanner's text, its errors among them. -/
import Derived.Test.YtdchnjijdkgfhaaGreatDoorAll
namespace Go.Proofs.YtdchnjijdkgfhaaGreatDoor
open Go.RowKit
attribute [local go_sem] Oper.semAt_some

/-- What reading all hands back. -/
def AllPost (w : World) (b : Nat) (t : ByteArray) (most : Int) (e : Ending) (w' : World) : Prop :=
  (most < (t.size : Int) ∧ e = .returned (.tuple #[.slice none 0 0, .int .i64 0, .int .i64 2]) ∧ Below b w w') ∨
  ((t.size : Int) ≤ most ∧ ∃ ts C q v' lv, Lx.scan (rest t 0) 0 = .ok ts C ∧ e = .returned (.tuple #[lv, .int .i64 0, .int .i64 0]) ∧ Tk w' b lv ts ∧ St w' b t q v' ∧ Cm w' b v' C ∧ Below b w w') ∨
  ((t.size : Int) ≤ most ∧ ∃ (a : Nat) (x : Int), Lx.scan (rest t 0) 0 = .err a x ∧ e = .returned (.tuple #[.slice none 0 0, .int .i64 a, .int .i64 x]) ∧ Below b w w')

theorem range_take {F : Fence} {n : Nat} {P : Program} {g : Operand} {ps : Array Tmp} {assign body : Code} {Q : Exit → Act → World → Prop} {a : Act} {w : World}
    (h : ∀ A B, A = assign → B = body → (Code.rangeFunc g ps A B).wpIn F n P Q a w) : (Code.rangeFunc g ps assign body).wpIn F n P Q a w := h _ _ rfl rfl

theorem leavesM_cons {n : Nat} {P : Program} {fn : Func} {tmps : Array Value} {R : Ending → World → Prop} {f : Nat} {caps : Array Value} {ds : List Deferred} {u : FrameMode} {w : World} (hu : u ≠ .run)
    (hinv : (invoke (.fn (.func f) caps) #[]).run P w = .ok (.enter f caps) w)
    (h : CallsDIn Fence.wide (n - 1) P f caps u w fun
          | .returned _, u', w' => LeavesInM Fence.wide n P fn tmps R ds (settle u') w'
          | .panicked chain, u', w' => LeavesInM Fence.wide n P fn tmps R ds (raised u' chain) w'
          | .outgrown, _, w' => R .outgrown w') :
    LeavesInM Fence.wide n P fn tmps R ({ target := .fn (.func f) caps, args := #[] } :: ds) u w :=
  ⟨hu, .inr ⟨fun e => by simp [Fence.wide] at e, .func f, caps, f, caps, rfl, hinv, fun _ _ => trivial, h⟩⟩

/-- How reading all leaves: its three result cells. -/
theorem all_results {w : World} {R : Nat} {x y z : Value} {TX TY TZ : TypeId} (hx : Blk w R #[x] TX) (hy : Blk w (R + 1) #[y] TY) (hz : Blk w (R + 1 + 1) #[z] TZ) (tmps : Array Value) (h4 : tmps[4]? = some (.pointer (some ⟨R, 0, none⟩))) (h5 : tmps[5]? = some (.pointer (some ⟨R + 1, 0, none⟩))) (h6 : tmps[6]? = some (.pointer (some ⟨R + 1 + 1, 0, none⟩)))
    (e4 : x.cells.size = 1) : (results Tryz.f33 tmps).run Tryz.prog w = .ok (.tuple #[x, y, z]) w := by
  have c4 := hx.cell (i := 0) (v := x) rfl
  have c5 := hy.cell (i := 0) (v := y) rfl
  have c6 := hz.cell (i := 0) (v := z) rfl
  simp [results, Tryz.results33, go_sem, h4, h5, h6, c4, c5, c6]

set_option maxRecDepth 100000 in
set_option maxHeartbeats 2000000 in
theorem all_long (w : World) (b : Nat) (t : ByteArray) (v : Value) (h : St w b t 0 v) (most : Int) (hm : most < (t.size : Int)) :
    CallsIn Fence.wide 3 Tryz.prog 33 #[.pointer (some ⟨b, 0, none⟩), .int .i64 most] w fun e w' => e = .returned (.tuple #[.slice none 0 0, .int .i64 0, .int .i64 2]) ∧ Below b w w' := by
  have hmf : ∀ (fn : Fn) (first cap : Array Value) (w : World), (Instr.makeFunc fn first cap).run Tryz.prog w = .ok (.func fn first cap) w := fun _ _ _ _ => rfl
  have hc0 := h.text
  have hb := h.lt
  have hbig := h.sz
  have hc3 : (((w.alloc (.cells #[.slice none 0 0] 23)).alloc (.cells #[.int .i64 0] 3)).alloc (.cells #[.int .i64 0] 24)).cell? ⟨b, 0, none⟩ = some (.string t) := (((h.alloc _).alloc _).alloc _).text
  refine callsIn_of_wp_marks Tryz.func33 rfl trivial ?_ rfl
  simp only [Tryz.ntmps33, List.size_toArray, List.length_cons, List.length_nil, Nat.reduceAdd, Nat.reduceSub, Array.replicate_succ, Array.replicate_zero, List.push_toArray, List.append_toArray, List.nil_append, List.cons_append]
  gi_wp2
  refine leavesM_cons (by simp) (by simp [go_sem]) ?_
  refine (all_idle _ _ _ _ _).mono ?_
  rintro e u' w' ⟨rfl, rfl, o, rfl⟩
  refine ⟨_, all_results (R := w.heap.size) ((((Blk.new w #[.slice none 0 0] 23).alloc _).alloc _).alloc _) (((Blk.new' (by simp) #[.int .i64 0] 3).alloc _).alloc _) ((Blk.new' (by simp) #[.int .i64 2] 24).alloc _) _ rfl rfl rfl rfl, rfl, ?_⟩
  exact Fr.below ((((((Old.refl w).alloc _).alloc _).alloc _).alloc _)) (Nat.le_of_lt hb) (fun k e => e.elim)

set_option maxRecDepth 100000 in
set_option maxHeartbeats 2000000 in
theorem all_reads (w : World) (b : Nat) (t : ByteArray) (v : Value) (h : St w b t 0 v) (hC : Cm w b v []) (hg : Gl w) (h6 : 6 ≤ b) (most : Int) (hm : (t.size : Int) ≤ most) (ht : t.size ≤ 400000) :
    CallsIn Fence.wide 3 Tryz.prog 33 #[.pointer (some ⟨b, 0, none⟩), .int .i64 most] w (AllPost w b t most) := by
  have hmf : ∀ (fn : Fn) (first cap : Array Value) (w : World), (Instr.makeFunc fn first cap).run Tryz.prog w = .ok (.func fn first cap) w := fun _ _ _ _ => rfl
  have hc0 := h.text
  have hb := h.lt
  have hbig := h.sz
  have hc3 : (((w.alloc (.cells #[.slice none 0 0] 23)).alloc (.cells #[.int .i64 0] 3)).alloc (.cells #[.int .i64 0] 24)).cell? ⟨b, 0, none⟩ = some (.string t) := (((h.alloc _).alloc _).alloc _).text
  refine callsIn_of_wp_marks Tryz.func33 rfl trivial ?_ rfl
  simp only [Tryz.ntmps33, List.size_toArray, List.length_cons, List.length_nil, Nat.reduceAdd, Nat.reduceSub, Array.replicate_succ, Array.replicate_zero, List.push_toArray, List.append_toArray, List.nil_append, List.cons_append]
  gi_wp2
  refine range_take ?_
  intro A B hA hB
  have hAB : rangeOf (Tryz.f33.body.getD .skip) = some (A, B) := by rw [hA, hB]; rfl
  clear hA hB hmf hc0 hc3
  obtain ⟨W0, hW0⟩ : ∃ W0, ((w.alloc (.cells #[.slice none 0 0] 23)).alloc (.cells #[.int .i64 0] 3)).alloc (.cells #[.int .i64 0] 24) = W0 := ⟨_, rfl⟩
  rw [hW0]
  have F0 : Old w W0 := by rw [← hW0]; exact (((Old.refl w).alloc _).alloc _).alloc _
  have z0 : W0.heap.size = w.heap.size + 3 := by rw [← hW0]; simp
  have bR : Blk W0 w.heap.size #[.slice none 0 0] 23 := by rw [← hW0]; exact ((Blk.new w _ _).alloc _).alloc _
  have bA : Blk W0 (w.heap.size + 1) #[.int .i64 0] 3 := by rw [← hW0]; exact (Blk.new' (by simp) _ _).alloc _
  have bE : Blk W0 (w.heap.size + 2) #[.int .i64 0] 24 := by rw [← hW0]; exact Blk.new' (by simp) _ _
  clear hW0
  refine wpIn_rangeFunc ?_
  intro fn _
  obtain ⟨tm, htm⟩ : ∃ tm, tm = (#[.pointer (some ⟨b, 0, none⟩), .int .i64 most, undef, undef, .pointer (some ⟨w.heap.size, 0, none⟩), .pointer (some ⟨w.heap.size + 1, 0, none⟩), .pointer (some ⟨w.heap.size + 1 + 1, 0, none⟩), undef,
    .func (.func 52) #[] #[.pointer (some ⟨w.heap.size, 0, none⟩), .pointer (some ⟨w.heap.size + 1, 0, none⟩), .pointer (some ⟨w.heap.size + 1 + 1, 0, none⟩)], .pointer (some ⟨b, 0, none⟩), .pointer (some ⟨b, 0, none⟩), .pointer (some ⟨b, 0, none⟩), .pointer (some ⟨b, 0, none⟩), .string t,
    .int .i64 t.size, .int .i64 most, .bool (decide (most < (t.size : Int))), .pointer (some ⟨b, 0, none⟩), .func (.func 53) #[.pointer (some ⟨b, 0, none⟩)] #[], undef, undef, undef, undef, undef, undef] : Array Value) := ⟨_, rfl⟩
  obtain ⟨rec, hrec⟩ : ∃ rec, rec = fun st pe => ({ state := st, pending := pe, fn, tmps := tm, params := #[19], assign := A, body := B, defers := W0.heap.size } : Loop) := ⟨_, rfl⟩
  obtain ⟨W1, hW1⟩ : ∃ W1, (W0.alloc (.deferred (some []))).alloc (.loop (rec .ready none)) = W1 := ⟨_, rfl⟩
  have F1 : Old w W1 := by rw [← hW1]; exact (F0.alloc _).alloc _
  have F01 : Old W0 W1 := by rw [← hW1]; exact ((Old.refl W0).alloc _).alloc _
  have z1 : W1.heap.size = W0.heap.size + 2 := by rw [← hW1]; simp
  have hJ1 : AllAt w b w.heap.size (W0.heap.size + 1) W0.heap.size rec [] W1 :=
    ⟨⟨_, bR.keep F01 (by simp), rfl, .inl ⟨rfl, rfl⟩⟩, bA.keep F01 (by simp), bE.keep F01 (by simp),
     by rw [← hW1]; have := World.alloc_heap_new (W0.alloc (.deferred (some []))) (.loop (rec .ready none)); rwa [World.size_alloc] at this,
     by rw [← hW1]; exact (Below.heap_alloc _ _ _ (by simp)).trans (World.alloc_heap_new W0 _), Fr.below F1 (Nat.le_of_lt hb) (fun k e => e.elim)⟩
  refine ⟨W0.heap.size + 1, [{ target := .collected W0.heap.size, args := #[] }], W1, { target := .fn (.func 53) #[], args := #[.pointer (some ⟨b, 0, none⟩), .func (.yield (W0.heap.size + 1)) #[] #[]] }, W1, 53,
    #[.pointer (some ⟨b, 0, none⟩), .func (.yield (W0.heap.size + 1)) #[] #[]], W1, ?_, ?_, fun _ _ => trivial, ?_, fun e => by simp [Fence.wide] at e, ?_⟩
  · rw [← hW1, hrec, htm]; exact run_enterLoop_outer _ _ _ _ _
  · simp [resolve, go_sem]
  · simp [invoke, go_sem]
  · refine (tokens_any 2 (by decide) (W0.heap.size + 1) W1 b t v (h.old F1) (hC.old F1) (hg.old F1) h6 ht (AllAt w b w.heap.size (W0.heap.size + 1) W0.heap.size rec) (fun ts W W' hj hbW hf => hj.frc hb (by omega) (by omega) hbW hf)
      (fun x ts q u C W hts hj hS hC hG => all_yield 1 w fn b w.heap.size (W0.heap.size + 1) W0.heap.size hb (by omega) (by omega) (by omega) h6 A B hAB tm _ _ _ _ _ _ _ _ _ _ _ _ _ _ _ _ _ _ _ _ _ _ _ _ htm rec hrec x ts t q u C W hts hj hS hC hG) hJ1).mono ?_
    have hst : (rec .ready none).state = .ready := by rw [hrec]
    have hpe : (rec .ready none).pending = none := by rw [hrec]
    clear hrec hAB hJ1 hW1
    rintro e W2 (⟨rfl, ts, C, q, v', hsc, hJ2, hS2, hC2, hG2⟩ | ⟨a, x, ts, rfl, hsc, hJ2⟩)
    · obtain ⟨lv, hb2, htk⟩ := hJ2.box
      obtain ⟨la, lk, lc, hlv⟩ : ∃ la lk lc, lv = .slice la lk lc := by
        rcases htk.2 with ⟨e, _⟩ | ⟨g, cap, cur, e, _⟩
        · exact ⟨_, _, _, e⟩
        · exact ⟨_, _, _, e⟩
      subst hlv
      obtain ⟨L', hend⟩ : ∃ L', (Instr.endLoop (W0.heap.size + 1)).run Tryz.prog W2 = .ok none (W2.putObj (W0.heap.size + 1) (.loop L')) := ⟨_, by have := run_endLoop (P := Tryz.prog) hJ2.L (by rw [hst]; simp); rw [hpe] at this; exact this⟩
      obtain ⟨W3, hW3⟩ : ∃ W3, W2.putObj (W0.heap.size + 1) (.loop L') = W3 := ⟨_, rfl⟩
      rw [hW3] at hend
      have F3 : Fr (fun k => k = W0.heap.size + 1) W2 W3 := by rw [← hW3]; exact (Fr.refl _ W2).putObj _ _ (fun _ => rfl)
      have b3 : Blk W3 w.heap.size #[.slice la lk lc] 23 := hb2.keep F3 (by omega)
      have a3 : Blk W3 (w.heap.size + 1) #[.int .i64 0] 3 := hJ2.at_.keep F3 (by omega)
      have e3 : Blk W3 (w.heap.size + 1 + 1) #[.int .i64 0] 24 := Blk.keep (b := w.heap.size + 2) hJ2.err F3 (by omega)
      have k3 := F3.heap hJ2.K (by omega)
      clear hW3
      refine ⟨none, W3, hend, ?_⟩
      have x0 := b3.cell (i := 0) (v := .slice la lk lc) rfl
      have x1 := a3.cell (i := 0) (v := .int .i64 0) rfl
      have x2 := e3.cell (i := 0) (v := .int .i64 0) rfl
      have y0 := b3.free 0
      have y1 := a3.free 0
      have y2 := e3.free 0
      clear hend
      gi_wp2
      rw [← z0]
      obtain ⟨W4, hW4⟩ : ∃ W4, ((W3.setCell ⟨w.heap.size, 0, none⟩ (.slice la lk lc)).setCell ⟨w.heap.size + 1, 0, none⟩ (.int .i64 0)).setCell ⟨w.heap.size + 1 + 1, 0, none⟩ (.int .i64 0) = W4 := ⟨_, rfl⟩
      rw [hW4]
      have b4 : Blk W4 w.heap.size #[.slice la lk lc] 23 := by rw [← hW4]; exact (((b3.set 0 _).other ⟨w.heap.size + 1, 0, none⟩ (by simp) _).other ⟨w.heap.size + 1 + 1, 0, none⟩ (by simp; omega) _)
      have a4 : Blk W4 (w.heap.size + 1) #[.int .i64 0] 3 := by rw [← hW4]; exact (((a3.other ⟨w.heap.size, 0, none⟩ (by simp) _).set 0 _).other ⟨w.heap.size + 1 + 1, 0, none⟩ (by simp) _)
      have e4 : Blk W4 (w.heap.size + 1 + 1) #[.int .i64 0] 24 := by rw [← hW4]; exact (((e3.other ⟨w.heap.size, 0, none⟩ (by simp; omega) _).other ⟨w.heap.size + 1, 0, none⟩ (by simp) _).set 0 _)
      have F4 : Fr (fun k => k = w.heap.size ∨ k = w.heap.size + 1 ∨ k = w.heap.size + 1 + 1) W3 W4 := by
        rw [← hW4]
        exact ((Fr.refl _ W3).setCell ⟨w.heap.size, 0, none⟩ (fun _ => .inl rfl) _ |>.setCell ⟨w.heap.size + 1, 0, none⟩ (fun _ => .inr (.inl rfl)) _).setCell ⟨w.heap.size + 1 + 1, 0, none⟩ (fun _ => .inr (.inr rfl)) _
      have k4 := F4.heap k3 (by omega)
      clear hW4
      refine ⟨by simp, .inl ⟨_, _, rfl, run_takeDeferred k4, ?_⟩⟩
      refine leavesM_cons (by simp) (by simp [go_sem]) ?_
      refine (all_idle _ _ _ _ _).mono ?_
      rintro e u' w' ⟨rfl, rfl, o, rfl⟩
      have F5 : Fr (fun k => k = w.heap.size ∨ k = w.heap.size + 1 ∨ k = w.heap.size + 1 + 1 ∨ k = W0.heap.size ∨ k = W0.heap.size + 1) W2 ((W4.putObj W0.heap.size (.deferred none)).alloc o) :=
        Fr.trans' (F3.mono (fun k _ e => .inr (.inr (.inr (.inr e))))) (((F4.mono (S' := fun k => k = w.heap.size ∨ k = w.heap.size + 1 ∨ k = w.heap.size + 1 + 1 ∨ k = W0.heap.size) (fun k _ e => by omega)).putObj W0.heap.size (.deferred none) (fun _ => .inr (.inr (.inr rfl)))).alloc o) (fun k _ e => by omega)
      have hRL : ∀ {j : Nat} {o : Obj}, W2.heap[j]? = some o → (∀ cs, o ≠ .cells cs 41 (0, 0)) → ∀ k, (Value.slice la lk lc).ownBlock = some k → k ≠ j := fun hj hne k hk e => own_ne htk hk (e ▸ hj) hne
      refine ⟨_, all_results (R := w.heap.size) ((b4.putObj (by omega) _).alloc _) ((a4.putObj (by omega) _).alloc _) ((e4.putObj (by omega) _).alloc _) _ rfl rfl rfl rfl, .inr (.inl ⟨hm, ts, C, q, v', _, hsc, rfl, ?_, ?_, ?_, ?_⟩)⟩
      · refine own_keep htk F5 ?_
        rintro k hk (e | e | e | e | e)
        · exact hRL hb2 (by intro cs e; cases e) k hk e
        · exact hRL hJ2.at_ (by intro cs e; cases e) k hk e
        · exact hRL hJ2.err (by intro cs e; cases e) k hk e
        · exact hRL hJ2.K (by intro cs e; cases e) k hk e
        · exact hRL hJ2.L (by intro cs e; cases e) k hk e
      · refine hS2.keepO F5 (by omega) ?_
        rintro k (e | e | e | e | e)
        · subst e; exact .inl ⟨_, _, _, hb2⟩
        · subst e; exact .inl ⟨_, _, _, hJ2.at_⟩
        · subst e; exact .inl ⟨_, _, _, hJ2.err⟩
        · subst e; exact .inr (.inr ⟨_, hJ2.K⟩)
        · subst e; exact .inr (.inl ⟨_, hJ2.L⟩)
      · refine hC2.keep F5 ?_
        rintro k hk (e | e | e | e | e)
        · subst e; exact own_ne hC2 hk hb2 (by intro cs e; cases e)
        · subst e; exact own_ne hC2 hk hJ2.at_ (by intro cs e; cases e)
        · subst e; exact own_ne hC2 hk hJ2.err (by intro cs e; cases e)
        · subst e; exact own_ne hC2 hk hJ2.K (by intro cs e; cases e)
        · subst e; exact own_ne hC2 hk hJ2.L (by intro cs e; cases e)
      · exact hJ2.below.trans (F5.below (by have := hJ2.below.size; omega) (fun k e => by omega))
    · have b3 := hJ2.box
      refine ⟨by simp, .inl ⟨_, _, rfl, run_takeDeferred hJ2.K, ?_⟩⟩
      obtain ⟨lv, hb2, htk⟩ := hJ2.box
      obtain ⟨W3, hW3⟩ : ∃ W3, W2.putObj W0.heap.size (.deferred none) = W3 := ⟨_, rfl⟩
      rw [hW3]
      have F3 : Fr (fun k => k = W0.heap.size) W2 W3 := by rw [← hW3]; exact (Fr.refl _ W2).putObj _ _ (fun _ => rfl)
      have b3 : Blk W3 w.heap.size #[lv] 23 := hb2.keep F3 (by omega)
      have a3 : Blk W3 (w.heap.size + 1) #[.int .i64 0] 3 := hJ2.at_.keep F3 (by omega)
      have e3 : Blk W3 (w.heap.size + 1 + 1) #[.int .i64 0] 24 := Blk.keep (b := w.heap.size + 2) hJ2.err F3 (by omega)
      have hbw : Below b w W3 := hJ2.below.trans (F3.below (by have := hJ2.below.size; omega) (fun k e => by omega))
      clear hW3
      refine leavesM_cons (by simp) (by simp [go_sem]) ?_
      refine (all_catch _ _ _ _ _ _ _ _ _ _ a x [] W3 b3 a3 e3 (by omega) (by omega) (by omega)).mono ?_
      rintro e u' w' ⟨rfl, rfl, o, rfl⟩
      refine ⟨_, all_results (R := w.heap.size) (TX := 23) (TY := 3) (TZ := 24) ?_ ?_ ?_ _ rfl rfl rfl rfl, .inr (.inr ⟨hm, a, x, hsc, rfl, ?_⟩)⟩
      · exact ((((b3.set 0 _).other ⟨w.heap.size + 1, 0, none⟩ (by simp) _).other ⟨w.heap.size + 1 + 1, 0, none⟩ (by simp; omega) _).alloc _).drew
      · exact ((((a3.other ⟨w.heap.size, 0, none⟩ (by simp) _).set 0 _).other ⟨w.heap.size + 1 + 1, 0, none⟩ (by simp) _).alloc _).drew
      · exact ((((e3.other ⟨w.heap.size, 0, none⟩ (by simp; omega) _).other ⟨w.heap.size + 1, 0, none⟩ (by simp) _).set 0 _).alloc _).drew
      · refine hbw.trans (Fr.below (S := fun k => b ≤ k) ?_ (by have := hbw.size; omega) (fun k e => e))
        exact (((((Fr.refl _ W3).setCell ⟨w.heap.size, 0, none⟩ (fun _ => Nat.le_of_lt hb) _).setCell ⟨w.heap.size + 1, 0, none⟩ (fun _ => by show b ≤ w.heap.size + 1; omega) _).setCell ⟨w.heap.size + 1 + 1, 0, none⟩ (fun _ => by show b ≤ w.heap.size + 1 + 1; omega) _).alloc _).drew

/-- Reading all, whatever the text. -/
theorem all_any (w : World) (b : Nat) (t : ByteArray) (v : Value) (h : St w b t 0 v) (hC : Cm w b v []) (hg : Gl w) (h6 : 6 ≤ b) (most : Int) (hm : most ≤ 400000) :
    Calls Tryz.prog 33 #[.pointer (some ⟨b, 0, none⟩), .int .i64 most] w (AllPost w b t most) := by
  refine (callsIn_wide (n := 3)).1 ?_
  by_cases hlt : most < (t.size : Int)
  · exact (all_long w b t v h most hlt).mono (fun e w' hp => .inl ⟨hlt, hp⟩)
  · exact all_reads w b t v h hC hg h6 most (by omega) (by omega)
end Go.Proofs.YtdchnjijdkgfhaaGreatDoor
