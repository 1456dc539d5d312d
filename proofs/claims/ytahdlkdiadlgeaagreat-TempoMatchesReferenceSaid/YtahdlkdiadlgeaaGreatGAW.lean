import Derived.Test.YtahdlkdiadlgeaaGreatGAV
/- How what came in is opened: tempos. -/
namespace Go.Proofs.YtahdlkdiadlgeaaGreat
open Go.ChangeShapes Go.WideShapes Go.ChangeAt Go.RowKit Go.Joins
set_option maxRecDepth 100000

theorem cellsTempo : Tryz.prog.cellsOf 48 = 3 := by kernel_rfl
theorem ints_tempo {H : Type} {enc : TypeId × Value → H} {W : World} {base n : Nat} {sp : Nat → Bool} {held : Bool} {c0 c1 c2 : Value} {y : DataW H × List MemPlace} (h : DataW.trod enc Tryz.prog W base sp held n 48 [c0, c1, c2] = some y) : ∃ x : Fo.T3, c0 = .int .i64 x.a ∧ c1 = .int .i64 x.b ∧ c2 = .int .i64 x.c := by
  obtain ⟨y0, y1, n', _, _, h0, h1⟩ := trod_struct2 Tryz.underlying48 h
  rw [zcellsInt] at h0
  rw [cellsRat] at h1
  simp only [List.drop_zero, List.take_succ_cons, List.take_zero, List.drop_succ_cons] at h0 h1
  obtain ⟨x, e0, _, _⟩ := DataW.trod_int Tryz.underlying3 h0
  obtain ⟨a, b, rfl, rfl, _, _⟩ := ints_rat h1
  simp only [List.cons.injEq, and_true] at e0
  exact ⟨⟨x, a, b⟩, e0, rfl, rfl⟩
theorem open_tempo {H : Type} {enc : TypeId × Value → H} {W : World} {base b0 : Nat} {r : Reach} {sp : Nat → Bool} {held : Bool} {v : Value} {d : DataW H} {p : List MemPlace}
    (hv : Value.okWide Tryz.prog W r b0 48 v) (h : DataW.Trod enc Tryz.prog W base sp held 48 v d p) : ∃ x : Fo.T3, v = .agg #[.int .i64 x.a, .int .i64 x.b, .int .i64 x.c] := by
  obtain ⟨cs, rfl, hsz⟩ := okWide_struct Tryz.underlying48 hv
  obtain ⟨c0, c1, c2, rfl⟩ := array3 (hsz.trans cellsTempo)
  obtain ⟨fuel, hf⟩ := h
  obtain ⟨x, rfl, rfl, rfl⟩ := ints_tempo (show DataW.trod enc Tryz.prog W base sp held fuel 48 [c0, c1, c2] = some (d, p) from hf)
  exact ⟨x, rfl⟩
/-- A slice of tempos that came in. -/
theorem open_sltempo {H : Type} {enc : TypeId × Value → H} {W : World} {b0 : Nat} {r : Reach} {v : Value} {d : DataW H} {p : List MemPlace}
    (hv : Value.okWide Tryz.prog W r b0 23 v) (h : DataW.Trod enc Tryz.prog W 0 (fun _ => true) true 23 v d p) :
    ∃ (A : Option Addr) (len cap : Nat) (l : List Fo.T3), v = .slice A len cap ∧ l.length = len ∧ cap ≤ maxLen ∧ len ≤ cap ∧ SlT W A l := by
  obtain ⟨a0, len0, cap0, rfl⟩ := okWide_slice Tryz.underlying23 hv
  obtain ⟨fuel, hf⟩ := h
  rcases Go.Deep.open_slice Tryz.underlying23 hf with ⟨hcs, _⟩ | ⟨a, len, cap, m, n, D, Pl, hcs, _, hl, hm, hmm, _, hx⟩
  · simp [Value.cells] at hcs
    obtain ⟨rfl, rfl, rfl⟩ := hcs
    exact ⟨none, 0, 0, [], rfl, rfl, by unfold maxLen; omega, Nat.le_refl _, SlT.nil _ _⟩
  · simp [Value.cells] at hcs
    obtain ⟨rfl, rfl, rfl⟩ := hcs
    by_cases h0 : len0 = 0
    · subst h0; exact ⟨some a, 0, cap0, [], rfl, rfl, by omega, Nat.zero_le _, SlT.nil _ _⟩
    rw [cellsTempo] at hx
    have key : ∀ i, i < len0 → ∃ z : Fo.T3, W.cell? (a.add (i * 3)) = some (.int .i64 z.a) ∧ W.cell? ((a.add (i * 3)).add 1) = some (.int .i64 z.b) ∧ W.cell? ((a.add (i * 3)).add 2) = some (.int .i64 z.c) := by
      intro i hi
      obtain ⟨cs', h1, h2⟩ := hx i (by rw [hmm]; simp; omega)
      obtain ⟨_, hlen, hc⟩ := World.cells?_some h1
      obtain ⟨c0, c1, c2, rfl⟩ : ∃ c0 c1 c2, cs' = [c0, c1, c2] := by
        match cs', hlen with
        | [c0, c1, c2], _ => exact ⟨c0, c1, c2, rfl⟩
      obtain ⟨x, rfl, rfl, rfl⟩ := ints_tempo h2
      exact ⟨x, by simpa [Addr.add] using hc 0 (by omega), hc 1 (by omega), hc 2 (by omega)⟩
    obtain ⟨f, hfx⟩ : ∃ f : Nat → Fo.T3, ∀ i, i < len0 → W.cell? (a.add (i * 3)) = some (.int .i64 (f i).a) ∧ W.cell? ((a.add (i * 3)).add 1) = some (.int .i64 (f i).b) ∧ W.cell? ((a.add (i * 3)).add 2) = some (.int .i64 (f i).c) :=
      ⟨fun i => if h : i < len0 then Classical.choose (key i h) else ⟨0, 0, 0⟩, fun i h => by simp only [h, dif_pos]; exact Classical.choose_spec (key i h)⟩
    obtain ⟨b, off, spot⟩ := a
    have hs := World.cell?_spot (hfx 0 (by omega)).1
    simp [Addr.add] at hs
    subst hs
    have e : ((List.range len0).map f).length = len0 := by simp
    refine ⟨_, len0, cap0, (List.range len0).map f, rfl, e, by omega, hl, fun _ => ⟨b, off, rfl, World.block_lt_of_cell? W _ (hfx 0 (by omega)).1, fun k hk => ?_⟩⟩
    have hk' : k < len0 := by simpa using hk
    obtain ⟨q0, q1, q2⟩ := hfx k hk'
    rw [Fo.at3_eq hk]
    simp only [List.getElem_map, List.getElem_range]
    simp only [zaddr_off] at q0 q1 q2
    exact ⟨q0, q1, q2⟩
end Go.Proofs.YtahdlkdiadlgeaaGreat
