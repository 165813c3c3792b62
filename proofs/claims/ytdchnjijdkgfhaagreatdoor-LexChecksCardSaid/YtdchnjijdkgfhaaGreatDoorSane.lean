/- The examples that every statement looks at first. -/
import Derived.Test.YtdchnjijdkgfhaaGreatDoorJoin
namespace Go.Proofs.YtdchnjijdkgfhaaGreatDoor
open Go.RowKit

theorem up1 : Lx.upto [102, 117, 110, 32, 102, 32, 120, 61, 120, 43, 126, 49, 40, 42, 32, 97, 32, 40, 42, 32, 98, 32, 42, 41, 32, 42, 41, 59] 20000 = .ok
  [{ kind := 5, num := 0, text := [102, 117, 110], pos := 0 }, { kind := 2, num := 0, text := [102], pos := 4 }, { kind := 2, num := 0, text := [120], pos := 6 }, { kind := 6, num := 0, text := [61], pos := 7 },
   { kind := 2, num := 0, text := [120], pos := 8 }, { kind := 6, num := 0, text := [43], pos := 9 }, { kind := 1, num := -1, text := [126, 49], pos := 10 }, { kind := 6, num := 0, text := [59], pos := 27 }] [(12, 27)] := by kernel_rfl
theorem up2 : Lx.upto [120, 39, 49, 32, 39, 97, 32, 120, 39, 97, 32, 40, 42, 41] 20000 = .err 11 12 := by kernel_rfl
theorem up3 : Lx.upto [97, 32, 33] 20000 = .err 2 11 := by kernel_rfl
theorem up4 : stripV ⟨#[97, 40, 42, 10, 42, 41, 98]⟩ (Lx.upto [97, 40, 42, 10, 42, 41, 98] 20000) = .tuple #[.string ⟨#[97, 32, 32, 10, 32, 32, 98]⟩, .int .i64 0, .int .i64 0] := by kernel_rfl

/-- A token of a text as one that comes in. -/
def rt (x : Lx.Tok) : RT := ⟨x.kind, x.num, ⟨x.text.toArray⟩, x.pos⟩

theorem tokCells_at : ∀ (L : List Lx.Tok) (i : Nat) (hi : i < L.length), (tokCells L)[i * 4]? = some (.int .i64 L[i].kind) ∧ (tokCells L)[i * 4 + 1]? = some (.int .i64 L[i].num) ∧ (tokCells L)[i * 4 + 2]? = some (.string ⟨L[i].text.toArray⟩) ∧ (tokCells L)[i * 4 + 3]? = some (.int .i64 L[i].pos)
  | [], i, hi => by simp at hi
  | x :: r, 0, _ => ⟨rfl, rfl, rfl, rfl⟩
  | x :: r, i + 1, hi => by
    have := tokCells_at r i (by simpa using hi)
    have e : tokCells (x :: r) = .int .i64 x.kind :: .int .i64 x.num :: .string ⟨x.text.toArray⟩ :: .int .i64 x.pos :: tokCells r := rfl
    rw [e, show (i + 1) * 4 = i * 4 + 1 + 1 + 1 + 1 from by omega]
    simpa using this

theorem Tk.form {w : World} {b : Nat} {v : Value} {L : List Lx.Tok} (h : Tk w b v L) : ∃ la lc, v = .slice la L.length lc ∧ TlAt w la (L.map rt) ∧ (∀ g, la = some g → b + 1 ≤ g.block) := by
  obtain ⟨_, h2⟩ := h
  rcases h2 with ⟨h2, h0⟩ | ⟨g, cap, cur, hv, hg, hh, h3, h4, h5, h6⟩
  · refine ⟨none, 0, by rw [h2, h0], fun i hi => ?_, fun g e => by cases e⟩
    rw [List.length_map] at hi
    omega
  · refine ⟨_, _, hv, fun i hi => ?_, fun g' e => by cases e; exact hg⟩
    have hi' : i < L.length := by rw [List.length_map] at hi; exact hi
    have hs := tokCells_at L i hi'
    have hb : ∀ k, k < L.length * 4 → cur[k]? = (tokCells L)[k]? := fun k hk => by
      rw [← h6, List.getElem?_take_of_lt hk, Array.getElem?_toList]
    have hc : ∀ k v, cur[k]? = some v → w.cell? ⟨g, 0 + k, none⟩ = some v := fun k v hk => by simp [World.cell?, hh, hk]
    refine ⟨g, 0, rfl, lt_of_block hh, ?_, ?_, ?_, ?_⟩
    · rw [List.getElem_map]; exact hc _ _ ((hb _ (by omega)).trans hs.1)
    · rw [List.getElem_map]; exact hc _ _ ((hb _ (by omega)).trans hs.2.1)
    · rw [List.getElem_map]; exact hc _ _ ((hb _ (by omega)).trans hs.2.2.1)
    · rw [List.getElem_map]; exact hc _ _ ((hb _ (by omega)).trans hs.2.2.2)

theorem scan_gives (t : ByteArray) (ht : t.size ≤ 140737488355328) (w : World) (hg : Gl w) {ts : List Lx.Tok} {C : List (Nat × Nat)} (h : Lx.upto t.data.toList 20000 = .ok ts C) :
    Calls Tryz.prog 7 #[.string t] w fun e w' => ∃ la lc, e = .returned (.tuple #[.slice la ts.length lc, .int .i64 0, .int .i64 0]) ∧ TlAt w' la (ts.map rt) ∧ Old w w' := by
  refine (scan_any t ht w hg).mono ?_
  intro e w' hp
  rw [h] at hp
  obtain ⟨lv, rfl, htk, hO⟩ := hp
  obtain ⟨la, lc, rfl, hT, _⟩ := htk.form
  exact ⟨la, lc, rfl, hT, hO⟩
theorem scan_fails (t : ByteArray) (ht : t.size ≤ 140737488355328) (w : World) (hg : Gl w) {a : Nat} {x : Int} (h : Lx.upto t.data.toList 20000 = .err a x) :
    Calls Tryz.prog 7 #[.string t] w fun e w' => ∃ la lc, e = .returned (.tuple #[.slice la 0 lc, .int .i64 a, .int .i64 x]) ∧ Old w w' := by
  refine (scan_any t ht w hg).mono ?_
  intro e w' hp
  rw [h] at hp
  obtain ⟨lv, rfl, htk, hO⟩ := hp
  obtain ⟨la, lc, rfl, hT, _⟩ := htk.form
  exact ⟨la, lc, rfl, hO⟩

/-- The tokens of the first example. -/
def toks1 : List Lx.Tok := [{ kind := 5, num := 0, text := [102, 117, 110], pos := 0 }, { kind := 2, num := 0, text := [102], pos := 4 }, { kind := 2, num := 0, text := [120], pos := 6 }, { kind := 6, num := 0, text := [61], pos := 7 },
   { kind := 2, num := 0, text := [120], pos := 8 }, { kind := 6, num := 0, text := [43], pos := 9 }, { kind := 1, num := -1, text := [126, 49], pos := 10 }, { kind := 6, num := 0, text := [59], pos := 27 }]
theorem sane1 (w : World) (hg : Gl w) : Calls Tryz.prog 7 #[.string ⟨#[102, 117, 110, 32, 102, 32, 120, 61, 120, 43, 126, 49, 40, 42, 32, 97, 32, 40, 42, 32, 98, 32, 42, 41, 32, 42, 41, 59]⟩] w fun e w' =>
    ∃ g o lc, e = .returned (.tuple #[.slice (some ⟨g, o, none⟩) 8 lc, .int .i64 0, .int .i64 0]) ∧ TlAt w' (some ⟨g, o, none⟩) (toks1.map rt) ∧ Old w w' := by
  refine (scan_gives ⟨#[102, 117, 110, 32, 102, 32, 120, 61, 120, 43, 126, 49, 40, 42, 32, 97, 32, 40, 42, 32, 98, 32, 42, 41, 32, 42, 41, 59]⟩ (by decide) w hg up1).mono ?_
  rintro e w' ⟨la, lc, rfl, hT, hO⟩
  obtain ⟨g, o, rfl, _⟩ := hT 0 (by simp)
  exact ⟨g, o, lc, rfl, hT, hO⟩
theorem sane2 (w : World) (hg : Gl w) : Calls Tryz.prog 7 #[.string ⟨#[120, 39, 49, 32, 39, 97, 32, 120, 39, 97, 32, 40, 42, 41]⟩] w fun e w' => ∃ la lc, e = .returned (.tuple #[.slice la 0 lc, .int .i64 11, .int .i64 12]) ∧ Old w w' :=
  scan_fails _ (by decide) w hg up2
theorem sane3 (w : World) (hg : Gl w) : Calls Tryz.prog 7 #[.string ⟨#[97, 32, 33]⟩] w fun e w' => ∃ la lc, e = .returned (.tuple #[.slice la 0 lc, .int .i64 2, .int .i64 11]) ∧ Old w w' :=
  scan_fails _ (by decide) w hg up3
theorem sane4 (w : World) (hg : Gl w) : Calls Tryz.prog 28 #[.string ⟨#[126, 57, 50, 50, 51, 51, 55, 50, 48, 51, 54, 56, 53, 52, 55, 55, 53, 56, 48, 56]⟩] w fun e w' => e = .returned (.tuple #[.int .i64 (-9223372036854775808), .int .i64 0]) ∧ Old w w' := by
  have := Number_any ⟨#[126, 57, 50, 50, 51, 51, 55, 50, 48, 51, 54, 56, 53, 52, 55, 55, 53, 56, 48, 56]⟩ (by decide) w hg
  rwa [show numV (Lx.number _) = .tuple #[.int .i64 (-9223372036854775808), .int .i64 0] from by kernel_rfl] at this
theorem sane5 (w : World) (hg : Gl w) : Calls Tryz.prog 9 #[.string ⟨#[97, 40, 42, 10, 42, 41, 98]⟩] w fun e w' => e = .returned (.tuple #[.string ⟨#[97, 32, 32, 10, 32, 32, 98]⟩, .int .i64 0, .int .i64 0]) ∧ Old w w' := by
  have := strip_any ⟨#[97, 40, 42, 10, 42, 41, 98]⟩ (by decide) w hg
  rwa [up4] at this
theorem sane6 (w : World) : Calls Tryz.prog 29 #[.string ⟨#[97, 98, 10, 99]⟩, .int .i64 4] w fun e w' => e = .returned (.tuple #[.int .i64 2, .int .i64 2, .int .i64 0]) ∧ Old w w' := by
  have := line_ok ⟨#[97, 98, 10, 99]⟩ (by decide) 4 (by decide) w
  rwa [show Lx.lineOf _ 4 = 2 from by kernel_rfl, show Lx.colOf _ 4 = 2 from by kernel_rfl] at this
theorem sane7 (w : World) : Calls Tryz.prog 30 #[.string ⟨#[97, 98, 10, 99]⟩, .int .i64 2, .int .i64 2] w fun e w' => e = .returned (.tuple #[.int .i64 4, .int .i64 0]) ∧ Old w w' := by
  have := at_ok ⟨#[97, 98, 10, 99]⟩ (by decide) 1 1 (by decide) (by decide) w
  rwa [show atV (Lx.atOf _ 1 1) = .tuple #[.int .i64 4, .int .i64 0] from by kernel_rfl] at this
theorem sane8 (w : World) (hg : Gl w) {g o lc : Nat} (hT : TlAt w (some ⟨g, o, none⟩) (toks1.map rt)) : Calls Tryz.prog 16 #[.slice (some ⟨g, o, none⟩) 8 lc] w fun e w' => e = .returned (.string ⟨#[102, 117, 110, 32, 102, 32, 120, 32, 61, 32, 120, 32, 43, 32, 126, 49, 32, 59]⟩) ∧ Old w w' := by
  have := join_any (toks1.map rt) _ lc w hg hT (by decide) (by decide) (fun x hx _ => (show ∀ x ∈ toks1.map rt, x.s.size ≤ 1000 from by decide) x hx)
  rwa [show (⟨(joinR (toks1.map rt)).toArray⟩ : ByteArray) = ⟨#[102, 117, 110, 32, 102, 32, 120, 32, 61, 32, 120, 32, 43, 32, 126, 49, 32, 59]⟩ from by kernel_rfl] at this
theorem saneName (t : ByteArray) (ht : t.size ≤ 1000) (w : World) (hg : Gl w) {k : Int} {r : Bool} (hk : Lx.kind t.data.toList = k) (hr : (k == 2) = r) : Calls Tryz.prog 21 #[.string t] w fun e w' => e = .returned (.bool r) ∧ Old w w' := by
  have := isName_any t (by omega) w hg
  rwa [hk, hr] at this
theorem sanePlain (t : ByteArray) (ht : t.size ≤ 1000) (w : World) (hg : Gl w) {r : Bool} (hr : Lx.plain t.data.toList = r) : Calls Tryz.prog 26 #[.string t] w fun e w' => e = .returned (.bool r) ∧ Old w w' := by
  have := plain_any t (by omega) w hg
  rwa [hr] at this
theorem sane9 (w : World) (hg : Gl w) : Calls Tryz.prog 31 #[.int .i64 (-12)] w fun e w' => e = .returned (.string ⟨#[126, 49, 50]⟩) ∧ Old w w' := by
  have := Digits_any (-12) (by decide) (by decide) w hg
  rwa [show (⟨(Lx.digits (-12)).toArray⟩ : ByteArray) = ⟨#[126, 49, 50]⟩ from by kernel_rfl] at this
end Go.Proofs.YtdchnjijdkgfhaaGreatDoor
