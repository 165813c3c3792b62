/- A list of tokens that came in, read. -/
import Derived.Test.YtemahghlpbdhiaaDoorLaid
import Derived.Test.YtemahghlpbdhiaaDoorSaneAll
import Derived.Deep.Slices
import Derived.Carry
namespace Go.Proofs.YtemahghlpbdhiaaDoor
open Go.ChangeShapes Go.WideShapes Go.ChangeAt Go.WideMaps Go.WideElems Go.RowKit Go.Deep

theorem laidOut : laidOutB Tryd.prog = true := by kernel_rfl
theorem cellsTok : Tryd.prog.cellsOf 42 = 4 := by kernel_rfl
theorem cellsI : Tryd.prog.cellsOf 3 = 1 := by kernel_rfl
theorem cellsS : Tryd.prog.cellsOf 9 = 1 := by kernel_rfl

theorem mem_weightsAll {H : Type} {P : Program} {e : TypeId} {n : Nat} : ∀ {l : List (DataW H)} {d : DataW H}, d ∈ l → n ∈ d.weights P e → n ∈ DataW.weightsAll P e l
  | [], d, h, _ => by cases h
  | x :: r, d, h, hn => by
    rw [DataW.weightsAll, List.mem_append]
    rcases List.mem_cons.1 h with rfl | h
    · exact .inl hn
    · exact .inr (mem_weightsAll h hn)

instance : Inhabited RT := ⟨⟨0, 0, ⟨#[]⟩, 0⟩⟩
set_option maxRecDepth 100000 in
/-- One token, read. -/
theorem open_tok {H : Type} {enc : TypeId × Value → H} {W : World} {sp : Nat → Bool} {held : Bool} {fuel : Nat} {cs : List Value} {x : DataW H × List MemPlace}
    (h : DataW.trod enc Tryd.prog W 0 sp held fuel 42 cs = some x) : ∃ y : RT, cs = [.int .i64 y.k, .int .i64 y.n, .string y.s, .int .i64 y.a] ∧ y.s.size ∈ x.1.weights Tryd.prog 42 := by
  obtain ⟨xs, n, _, hx, hl, hlen, hf⟩ := DataW.trod_struct Tryd.underlying42 h
  rw [cellsTok] at hl
  match cs, hl with
  | [c0, c1, c2, c3], _ =>
  match xs, hlen with
  | [y0, y1, y2, y3], _ =>
  have g0 := hf 0 _ rfl
  have g1 := hf 1 _ rfl
  have g2 := hf 2 _ rfl
  have g3 := hf 3 _ rfl
  simp [cellsI, cellsS] at g0 g1 g2 g3
  obtain ⟨k, e0, f0, _⟩ := DataW.trod_int Tryd.underlying3 g0
  obtain ⟨m, e1, f1, _⟩ := DataW.trod_int Tryd.underlying3 g1
  obtain ⟨s, e2, f2, _⟩ := DataW.trod_string Tryd.underlying9 g2
  obtain ⟨a, e3, f3, _⟩ := DataW.trod_int Tryd.underlying3 g3
  simp only [List.cons.injEq, and_true] at e0 e1 e2 e3
  subst e0 e1 e2 e3
  refine ⟨⟨k, m, s, a⟩, rfl, ?_⟩
  rw [hx, f2]
  simp [DataW.weights, DataW.weightsEach, Tryd.underlying42, f0, f1, f3]

theorem bytesTok : 1 ≤ Tryd.prog.bytesOf 42 := by
  rw [show Tryd.prog.bytesOf 42 = 40 from by kernel_rfl]; decide

set_option maxRecDepth 100000 in
/-- A list of tokens, read. -/
theorem open_toks {H : Type} {enc : TypeId × Value → H} {W : World} {a0 : Option Addr} {len cap : Nat} {d : DataW H} {p : List MemPlace}
    (h : DataW.Trod enc Tryd.prog W 0 (fun _ => true) true 35 (.slice a0 len cap) d p) :
    ∃ L : List RT, L.length = len ∧ TlAt W a0 L ∧ ((∀ n ∈ d.weights Tryd.prog 35, n ≤ reachBytes) → (∀ x ∈ L, x.s.size ≤ reachBytes) ∧ len ≤ reachBytes) := by
  obtain ⟨fuel, hf⟩ := h
  rcases open_slice Tryd.underlying35 hf with ⟨hcs, hx⟩ | ⟨a, len', cap', m, n, D, Pl, hcs, _, hl, hm, hmm, hx, hel⟩
  · simp [Value.cells] at hcs
    obtain ⟨rfl, rfl, rfl⟩ := hcs
    exact ⟨[], rfl, fun i hi => by simp at hi, fun _ => ⟨by simp, by decide⟩⟩
  · simp [Value.cells] at hcs
    obtain ⟨rfl, rfl, rfl⟩ := hcs
    simp only [Prod.mk.injEq] at hx
    obtain ⟨rfl, _⟩ := hx
    simp only [if_true] at hmm
    subst hmm
    obtain ⟨b, off, spot⟩ := a
    have hsp : 0 < len → spot = none := fun h0 => by
      obtain ⟨cs', hc, ht⟩ := hel 0 (by omega)
      rw [cellsTok] at hc
      obtain ⟨y, rfl, _⟩ := open_tok ht
      obtain ⟨_, _, hcell⟩ := World.cells?_some hc
      have := hcell 0 (by decide)
      simpa [Addr.add] using World.cell?_spot this
    have each : ∀ i, i < len → ∃ y : RT, (W.cell? ⟨b, off + i * 4, none⟩ = some (.int .i64 y.k) ∧ W.cell? ⟨b, off + i * 4 + 1, none⟩ = some (.int .i64 y.n) ∧ W.cell? ⟨b, off + i * 4 + 2, none⟩ = some (.string y.s) ∧ W.cell? ⟨b, off + i * 4 + 3, none⟩ = some (.int .i64 y.a)) ∧ y.s.size ∈ (D i).weights Tryd.prog 42 := by
      intro i hi
      obtain ⟨cs', hc, ht⟩ := hel i (by omega)
      rw [cellsTok] at hc
      obtain ⟨y, rfl, hw⟩ := open_tok ht
      obtain ⟨_, _, hcell⟩ := World.cells?_some hc
      obtain rfl := hsp (by omega)
      rw [add_plain] at hcell
      have e0 := hcell 0 (by decide)
      have e1 := hcell 1 (by decide)
      have e2 := hcell 2 (by decide)
      have e3 := hcell 3 (by decide)
      rw [add_plain] at e0 e1 e2 e3
      exact ⟨y, ⟨by simpa using e0, by simpa using e1, by simpa using e2, by simpa using e3⟩, hw⟩
    obtain ⟨q, hq⟩ := choose_lt each
    refine ⟨(List.range len).map q, by simp, fun i hi => ?_, fun hwt => ⟨fun x hx => ?_, ?_⟩⟩
    · have hi' : i < len := by simpa using hi
      obtain ⟨⟨e0, e1, e2, e3⟩, _⟩ := hq i hi'
      have hb : b < W.heap.size := World.block_lt_of_cell? W ⟨b, off + i * 4, none⟩ (by rw [e0])
      obtain rfl := hsp (by omega)
      have hg : ((List.range len).map q)[i] = q i := by simp
      rw [hg]
      exact ⟨b, off, rfl, hb, e0, e1, e2, e3⟩
    · obtain ⟨i, hi, rfl⟩ := List.mem_map.1 hx
      have hi' : i < len := by simpa using hi
      refine hwt _ ?_
      simp only [DataW.weights, Tryd.underlying35]
      refine List.mem_cons_of_mem _ (List.mem_append_left _ (mem_weightsAll (List.mem_map.2 ⟨i, hi, rfl⟩) (hq i hi').2))
    · have := hwt _ (by simp only [DataW.weights, Tryd.underlying35]; exact List.mem_cons_self)
      rw [List.length_map, List.length_range] at this
      have hb := bytesTok
      exact Nat.le_trans (Nat.le_trans (Nat.le_add_right _ _) (Nat.le_mul_of_pos_right _ hb)) this
end Go.Proofs.YtemahghlpbdhiaaDoor
