import Derived.Test.YtahdlkdiadlgeaaGAT
import Derived.Test.YtahdlkdiadlgeaaGAX
import Derived.Test.YtahdlkdiadlgeaaRows
import Derived.ProofKit
import Derived.OpenShut
import Derived.Lib.SmallJoins
import Derived.LaidMore
import Derived.LaidSub
import Derived.MakeChecks
import Derived.Stop.Joined
import Derived.Carry
import Derived.SizedLaws
import Derived.Deep.Slices
import Derived.Deep.Strs
/- How what came in is opened: forms, visits, cuts. -/
namespace Go.Proofs.Ytahdlkdiadlgeaa
open Go.ChangeShapes Go.WideShapes Go.ChangeAt Go.RowKit Go.Joins
set_option maxRecDepth 100000

theorem zlaidOut : laidOutB Try.prog = true := by kernel_rfl
theorem zcellsInt : Try.prog.cellsOf 3 = 1 := by kernel_rfl
theorem cellsForm : Try.prog.cellsOf 47 = 7 := by kernel_rfl
theorem cellsSl : Try.prog.cellsOf 41 = 1 ∧ Try.prog.cellsOf 42 = 1 ∧ Try.prog.cellsOf 45 = 1 := ⟨by kernel_rfl, by kernel_rfl, by kernel_rfl⟩
theorem zaddr_off (b o j : Nat) : (⟨b, o, none⟩ : Addr).add j = ⟨b, o + j, none⟩ := by unfold Addr.add; split <;> simp_all
theorem wf_in16 {x : Int} (h : (Lit.int .u16 x).wf = true) : 0 ≤ x ∧ x < 65536 := by
  simp only [Lit.wf, Bool.and_eq_true, decide_eq_true_eq] at h
  exact ⟨Int.le_trans (by decide) h.1, Int.lt_of_le_of_lt h.2 (by decide)⟩
theorem cells_visit : Try.prog.cellsOf 55 = 2 := by kernel_rfl
theorem ints_visit {H : Type} {enc : TypeId × Value → H} {W : World} {base n : Nat} {sp : Nat → Bool} {held : Bool} {c0 c1 : Value} {y : DataW H × List MemPlace} (h : DataW.trod enc Try.prog W base sp held n 55 [c0, c1] = some y) : ∃ a b : Int, c0 = .int .i64 a ∧ c1 = .int .i64 b ∧ inI a ∧ inI b := by
  obtain ⟨y0, y1, n', _, _, t0, t1⟩ := trod_struct2 Try.underlying55 h
  rw [zcellsInt] at t0 t1
  simp only [List.drop_zero, List.take_succ_cons, List.take_zero, List.drop_succ_cons] at t0 t1
  obtain ⟨x0, e0, _, w0⟩ := DataW.trod_int Try.underlying3 t0
  obtain ⟨x1, e1, _, w1⟩ := DataW.trod_int Try.underlying3 t1
  simp only [List.cons.injEq, and_true] at e0 e1
  exact ⟨x0, x1, e0, e1, wf_in w0, wf_in w1⟩
theorem open_visit {H : Type} {enc : TypeId × Value → H} {W : World} {base b0 : Nat} {r : Reach} {sp : Nat → Bool} {held : Bool} {v : Value} {d : DataW H} {p : List MemPlace}
    (hv : Value.okWide Try.prog W r b0 55 v) (h : DataW.Trod enc Try.prog W base sp held 55 v d p) : ∃ a b : Int, v = .agg #[.int .i64 a, .int .i64 b] ∧ inI a ∧ inI b := by
  obtain ⟨⟨cs⟩, rfl, hsz⟩ := okWide_struct Try.underlying55 hv
  obtain ⟨c0, c1, rfl⟩ : ∃ c0 c1, cs = [c0, c1] := by
    have hl : cs.length = 2 := by rw [cells_visit] at hsz; exact hsz
    match cs, hl with
    | [c0, c1], _ => exact ⟨c0, c1, rfl⟩
  obtain ⟨fuel, hf⟩ := h
  obtain ⟨a, b, rfl, rfl, hw⟩ := ints_visit (show DataW.trod enc Try.prog W base sp held fuel 55 [c0, c1] = some (d, p) from hf)
  exact ⟨a, b, rfl, hw⟩
theorem cells_jump : Try.prog.cellsOf 44 = 3 := by kernel_rfl
theorem ints_jump {H : Type} {enc : TypeId × Value → H} {W : World} {base n : Nat} {sp : Nat → Bool} {held : Bool} {c0 c1 c2 : Value} {y : DataW H × List MemPlace} (h : DataW.trod enc Try.prog W base sp held n 44 [c0, c1, c2] = some y) : ∃ a b c : Int, c0 = .int .i64 a ∧ c1 = .int .i64 b ∧ c2 = .int .i64 c ∧ inI a ∧ inI b ∧ inI c := by
  obtain ⟨y0, y1, y2, n', _, _, t0, t1, t2⟩ := Go.Deep.trod_struct3 Try.underlying44 h
  rw [zcellsInt] at t0 t1 t2
  simp only [List.drop_zero, List.take_succ_cons, List.take_zero, List.drop_succ_cons] at t0 t1 t2
  obtain ⟨x0, e0, _, w0⟩ := DataW.trod_int Try.underlying3 t0
  obtain ⟨x1, e1, _, w1⟩ := DataW.trod_int Try.underlying3 t1
  obtain ⟨x2, e2, _, w2⟩ := DataW.trod_int Try.underlying3 t2
  simp only [List.cons.injEq, and_true] at e0 e1 e2
  exact ⟨x0, x1, x2, e0, e1, e2, wf_in w0, wf_in w1, wf_in w2⟩
theorem open_jump {H : Type} {enc : TypeId × Value → H} {W : World} {base b0 : Nat} {r : Reach} {sp : Nat → Bool} {held : Bool} {v : Value} {d : DataW H} {p : List MemPlace}
    (hv : Value.okWide Try.prog W r b0 44 v) (h : DataW.Trod enc Try.prog W base sp held 44 v d p) : ∃ a b c : Int, v = .agg #[.int .i64 a, .int .i64 b, .int .i64 c] ∧ inI a ∧ inI b ∧ inI c := by
  obtain ⟨⟨cs⟩, rfl, hsz⟩ := okWide_struct Try.underlying44 hv
  obtain ⟨c0, c1, c2, rfl⟩ : ∃ c0 c1 c2, cs = [c0, c1, c2] := by
    have hl : cs.length = 3 := by rw [cells_jump] at hsz; exact hsz
    match cs, hl with
    | [c0, c1, c2], _ => exact ⟨c0, c1, c2, rfl⟩
  obtain ⟨fuel, hf⟩ := h
  obtain ⟨a, b, c, rfl, rfl, rfl, hw⟩ := ints_jump (show DataW.trod enc Try.prog W base sp held fuel 44 [c0, c1, c2] = some (d, p) from hf)
  exact ⟨a, b, c, rfl, hw⟩
theorem cells_repeat : Try.prog.cellsOf 66 = 3 := by kernel_rfl
theorem ints_repeat {H : Type} {enc : TypeId × Value → H} {W : World} {base n : Nat} {sp : Nat → Bool} {held : Bool} {c0 c1 c2 : Value} {y : DataW H × List MemPlace} (h : DataW.trod enc Try.prog W base sp held n 66 [c0, c1, c2] = some y) : ∃ a b c : Int, c0 = .int .i64 a ∧ c1 = .int .i64 b ∧ c2 = .int .i64 c ∧ inI a ∧ inI b ∧ inI c := by
  obtain ⟨y0, y1, y2, n', _, _, t0, t1, t2⟩ := Go.Deep.trod_struct3 Try.underlying66 h
  rw [zcellsInt] at t0 t1 t2
  simp only [List.drop_zero, List.take_succ_cons, List.take_zero, List.drop_succ_cons] at t0 t1 t2
  obtain ⟨x0, e0, _, w0⟩ := DataW.trod_int Try.underlying3 t0
  obtain ⟨x1, e1, _, w1⟩ := DataW.trod_int Try.underlying3 t1
  obtain ⟨x2, e2, _, w2⟩ := DataW.trod_int Try.underlying3 t2
  simp only [List.cons.injEq, and_true] at e0 e1 e2
  exact ⟨x0, x1, x2, e0, e1, e2, wf_in w0, wf_in w1, wf_in w2⟩
theorem open_repeat {H : Type} {enc : TypeId × Value → H} {W : World} {base b0 : Nat} {r : Reach} {sp : Nat → Bool} {held : Bool} {v : Value} {d : DataW H} {p : List MemPlace}
    (hv : Value.okWide Try.prog W r b0 66 v) (h : DataW.Trod enc Try.prog W base sp held 66 v d p) : ∃ a b c : Int, v = .agg #[.int .i64 a, .int .i64 b, .int .i64 c] ∧ inI a ∧ inI b ∧ inI c := by
  obtain ⟨⟨cs⟩, rfl, hsz⟩ := okWide_struct Try.underlying66 hv
  obtain ⟨c0, c1, c2, rfl⟩ : ∃ c0 c1 c2, cs = [c0, c1, c2] := by
    have hl : cs.length = 3 := by rw [cells_repeat] at hsz; exact hsz
    match cs, hl with
    | [c0, c1, c2], _ => exact ⟨c0, c1, c2, rfl⟩
  obtain ⟨fuel, hf⟩ := h
  obtain ⟨a, b, c, rfl, rfl, rfl, hw⟩ := ints_repeat (show DataW.trod enc Try.prog W base sp held fuel 66 [c0, c1, c2] = some (d, p) from hf)
  exact ⟨a, b, c, rfl, hw⟩
theorem tr_slrepeat {H : Type} {enc : TypeId × Value → H} {W : World} {fuel : Nat} {v : Value} {x : DataW H × List MemPlace} (hf : DataW.trod enc Try.prog W 0 (fun _ => true) true fuel 41 [v] = some x) :
    ∃ (A : Option Addr) (len cap : Nat) (l : List Fo.T3), v = .slice A len cap ∧ l.length = len ∧ len ≤ maxLen ∧ len ≤ cap ∧ (A = none → cap = 0) ∧ SlT W A l ∧ ∀ c ∈ l, Fo.wf3 c := by
  rcases Go.Deep.open_slice Try.underlying41 hf with ⟨hcs, _⟩ | ⟨a, len0, cap0, m, n, D, Pl, hcs, _, hl, hm, hmm, _, hx⟩
  · simp at hcs
    subst hcs
    exact ⟨none, 0, 0, [], rfl, rfl, by unfold maxLen; omega, Nat.le_refl _, fun _ => rfl, SlT.nil _ _, fun q hq => by simp at hq⟩
  · simp at hcs
    subst hcs
    by_cases h0 : len0 = 0
    · subst h0; exact ⟨some a, 0, cap0, [], rfl, rfl, by omega, Nat.zero_le _, (fun h => by cases h), SlT.nil _ _, fun q hq => by simp at hq⟩
    rw [cells_repeat] at hx
    have key : ∀ i, i < len0 → ∃ z : Fo.T3, W.cell? (a.add (i * 3)) = some (.int .i64 z.a) ∧ W.cell? ((a.add (i * 3)).add 1) = some (.int .i64 z.b) ∧ W.cell? ((a.add (i * 3)).add 2) = some (.int .i64 z.c) ∧ Fo.wf3 z := by
      intro i hi
      obtain ⟨cs', h1, h2⟩ := hx i (by rw [hmm]; simp; omega)
      obtain ⟨_, hlen, hc⟩ := World.cells?_some h1
      obtain ⟨c0, c1, c2, rfl⟩ : ∃ c0 c1 c2, cs' = [c0, c1, c2] := by
        match cs', hlen with
        | [c0, c1, c2], _ => exact ⟨c0, c1, c2, rfl⟩
      obtain ⟨x, y, z, rfl, rfl, rfl, w0, w1, w2⟩ := ints_repeat h2
      exact ⟨⟨x, y, z⟩, by simpa [Addr.add] using hc 0 (by omega), hc 1 (by omega), hc 2 (by omega), w0, w1, w2⟩
    obtain ⟨f, hfx⟩ : ∃ f : Nat → Fo.T3, ∀ i, i < len0 → W.cell? (a.add (i * 3)) = some (.int .i64 (f i).a) ∧ W.cell? ((a.add (i * 3)).add 1) = some (.int .i64 (f i).b) ∧ W.cell? ((a.add (i * 3)).add 2) = some (.int .i64 (f i).c) ∧ Fo.wf3 (f i) :=
      ⟨fun i => if h : i < len0 then Classical.choose (key i h) else ⟨0, 0, 0⟩, fun i h => by simp only [h, dif_pos]; exact Classical.choose_spec (key i h)⟩
    obtain ⟨b, off, spot⟩ := a
    have hs := World.cell?_spot (hfx 0 (by omega)).1
    simp [Addr.add] at hs
    subst hs
    have e : ((List.range len0).map f).length = len0 := by simp
    refine ⟨_, len0, cap0, (List.range len0).map f, rfl, e, by omega, hl, (fun h => by cases h), fun _ => ⟨b, off, rfl, World.block_lt_of_cell? W _ (hfx 0 (by omega)).1, fun k hk => ?_⟩, fun q hq => ?_⟩
    · have hk' : k < len0 := by simpa using hk
      obtain ⟨q0, q1, q2, _⟩ := hfx k hk'
      rw [Fo.at3_eq hk]
      simp only [List.getElem_map, List.getElem_range]
      simp only [zaddr_off] at q0 q1 q2
      exact ⟨q0, q1, q2⟩
    · obtain ⟨i, hi, rfl⟩ := List.mem_map.1 hq
      exact (hfx i (List.mem_range.1 hi)).2.2.2
theorem cells_ending : Try.prog.cellsOf 116 = 3 := by kernel_rfl
theorem ints_ending {H : Type} {enc : TypeId × Value → H} {W : World} {base n : Nat} {sp : Nat → Bool} {held : Bool} {c0 c1 c2 : Value} {y : DataW H × List MemPlace} (h : DataW.trod enc Try.prog W base sp held n 116 [c0, c1, c2] = some y) : ∃ a b c : Int, c0 = .int .i64 a ∧ c1 = .int .i64 b ∧ c2 = .int .i64 c ∧ inI a ∧ inI b ∧ inI c := by
  obtain ⟨y0, y1, y2, n', _, _, t0, t1, t2⟩ := Go.Deep.trod_struct3 Try.underlying116 h
  rw [zcellsInt] at t0 t1 t2
  simp only [List.drop_zero, List.take_succ_cons, List.take_zero, List.drop_succ_cons] at t0 t1 t2
  obtain ⟨x0, e0, _, w0⟩ := DataW.trod_int Try.underlying3 t0
  obtain ⟨x1, e1, _, w1⟩ := DataW.trod_int Try.underlying3 t1
  obtain ⟨x2, e2, _, w2⟩ := DataW.trod_int Try.underlying3 t2
  simp only [List.cons.injEq, and_true] at e0 e1 e2
  exact ⟨x0, x1, x2, e0, e1, e2, wf_in w0, wf_in w1, wf_in w2⟩
theorem open_ending {H : Type} {enc : TypeId × Value → H} {W : World} {base b0 : Nat} {r : Reach} {sp : Nat → Bool} {held : Bool} {v : Value} {d : DataW H} {p : List MemPlace}
    (hv : Value.okWide Try.prog W r b0 116 v) (h : DataW.Trod enc Try.prog W base sp held 116 v d p) : ∃ a b c : Int, v = .agg #[.int .i64 a, .int .i64 b, .int .i64 c] ∧ inI a ∧ inI b ∧ inI c := by
  obtain ⟨⟨cs⟩, rfl, hsz⟩ := okWide_struct Try.underlying116 hv
  obtain ⟨c0, c1, c2, rfl⟩ : ∃ c0 c1 c2, cs = [c0, c1, c2] := by
    have hl : cs.length = 3 := by rw [cells_ending] at hsz; exact hsz
    match cs, hl with
    | [c0, c1, c2], _ => exact ⟨c0, c1, c2, rfl⟩
  obtain ⟨fuel, hf⟩ := h
  obtain ⟨a, b, c, rfl, rfl, rfl, hw⟩ := ints_ending (show DataW.trod enc Try.prog W base sp held fuel 116 [c0, c1, c2] = some (d, p) from hf)
  exact ⟨a, b, c, rfl, hw⟩
theorem tr_slending {H : Type} {enc : TypeId × Value → H} {W : World} {fuel : Nat} {v : Value} {x : DataW H × List MemPlace} (hf : DataW.trod enc Try.prog W 0 (fun _ => true) true fuel 42 [v] = some x) :
    ∃ (A : Option Addr) (len cap : Nat) (l : List Fo.T3), v = .slice A len cap ∧ l.length = len ∧ len ≤ maxLen ∧ len ≤ cap ∧ (A = none → cap = 0) ∧ SlT W A l ∧ ∀ c ∈ l, Fo.wf3 c := by
  rcases Go.Deep.open_slice Try.underlying42 hf with ⟨hcs, _⟩ | ⟨a, len0, cap0, m, n, D, Pl, hcs, _, hl, hm, hmm, _, hx⟩
  · simp at hcs
    subst hcs
    exact ⟨none, 0, 0, [], rfl, rfl, by unfold maxLen; omega, Nat.le_refl _, fun _ => rfl, SlT.nil _ _, fun q hq => by simp at hq⟩
  · simp at hcs
    subst hcs
    by_cases h0 : len0 = 0
    · subst h0; exact ⟨some a, 0, cap0, [], rfl, rfl, by omega, Nat.zero_le _, (fun h => by cases h), SlT.nil _ _, fun q hq => by simp at hq⟩
    rw [cells_ending] at hx
    have key : ∀ i, i < len0 → ∃ z : Fo.T3, W.cell? (a.add (i * 3)) = some (.int .i64 z.a) ∧ W.cell? ((a.add (i * 3)).add 1) = some (.int .i64 z.b) ∧ W.cell? ((a.add (i * 3)).add 2) = some (.int .i64 z.c) ∧ Fo.wf3 z := by
      intro i hi
      obtain ⟨cs', h1, h2⟩ := hx i (by rw [hmm]; simp; omega)
      obtain ⟨_, hlen, hc⟩ := World.cells?_some h1
      obtain ⟨c0, c1, c2, rfl⟩ : ∃ c0 c1 c2, cs' = [c0, c1, c2] := by
        match cs', hlen with
        | [c0, c1, c2], _ => exact ⟨c0, c1, c2, rfl⟩
      obtain ⟨x, y, z, rfl, rfl, rfl, w0, w1, w2⟩ := ints_ending h2
      exact ⟨⟨x, y, z⟩, by simpa [Addr.add] using hc 0 (by omega), hc 1 (by omega), hc 2 (by omega), w0, w1, w2⟩
    obtain ⟨f, hfx⟩ : ∃ f : Nat → Fo.T3, ∀ i, i < len0 → W.cell? (a.add (i * 3)) = some (.int .i64 (f i).a) ∧ W.cell? ((a.add (i * 3)).add 1) = some (.int .i64 (f i).b) ∧ W.cell? ((a.add (i * 3)).add 2) = some (.int .i64 (f i).c) ∧ Fo.wf3 (f i) :=
      ⟨fun i => if h : i < len0 then Classical.choose (key i h) else ⟨0, 0, 0⟩, fun i h => by simp only [h, dif_pos]; exact Classical.choose_spec (key i h)⟩
    obtain ⟨b, off, spot⟩ := a
    have hs := World.cell?_spot (hfx 0 (by omega)).1
    simp [Addr.add] at hs
    subst hs
    have e : ((List.range len0).map f).length = len0 := by simp
    refine ⟨_, len0, cap0, (List.range len0).map f, rfl, e, by omega, hl, (fun h => by cases h), fun _ => ⟨b, off, rfl, World.block_lt_of_cell? W _ (hfx 0 (by omega)).1, fun k hk => ?_⟩, fun q hq => ?_⟩
    · have hk' : k < len0 := by simpa using hk
      obtain ⟨q0, q1, q2, _⟩ := hfx k hk'
      rw [Fo.at3_eq hk]
      simp only [List.getElem_map, List.getElem_range]
      simp only [zaddr_off] at q0 q1 q2
      exact ⟨q0, q1, q2⟩
    · obtain ⟨i, hi, rfl⟩ := List.mem_map.1 hq
      exact (hfx i (List.mem_range.1 hi)).2.2.2
theorem cells_cut : Try.prog.cellsOf 106 = 3 := by kernel_rfl
theorem ints_cut {H : Type} {enc : TypeId × Value → H} {W : World} {base n : Nat} {sp : Nat → Bool} {held : Bool} {c0 c1 c2 : Value} {y : DataW H × List MemPlace} (h : DataW.trod enc Try.prog W base sp held n 106 [c0, c1, c2] = some y) : ∃ a b c : Int, c0 = .int .i64 a ∧ c1 = .int .i64 b ∧ c2 = .int .i64 c ∧ inI a ∧ inI b ∧ inI c := by
  obtain ⟨y0, y1, y2, n', _, _, t0, t1, t2⟩ := Go.Deep.trod_struct3 Try.underlying106 h
  rw [zcellsInt] at t0 t1 t2
  simp only [List.drop_zero, List.take_succ_cons, List.take_zero, List.drop_succ_cons] at t0 t1 t2
  obtain ⟨x0, e0, _, w0⟩ := DataW.trod_int Try.underlying3 t0
  obtain ⟨x1, e1, _, w1⟩ := DataW.trod_int Try.underlying3 t1
  obtain ⟨x2, e2, _, w2⟩ := DataW.trod_int Try.underlying3 t2
  simp only [List.cons.injEq, and_true] at e0 e1 e2
  exact ⟨x0, x1, x2, e0, e1, e2, wf_in w0, wf_in w1, wf_in w2⟩
theorem open_cut {H : Type} {enc : TypeId × Value → H} {W : World} {base b0 : Nat} {r : Reach} {sp : Nat → Bool} {held : Bool} {v : Value} {d : DataW H} {p : List MemPlace}
    (hv : Value.okWide Try.prog W r b0 106 v) (h : DataW.Trod enc Try.prog W base sp held 106 v d p) : ∃ a b c : Int, v = .agg #[.int .i64 a, .int .i64 b, .int .i64 c] ∧ inI a ∧ inI b ∧ inI c := by
  obtain ⟨⟨cs⟩, rfl, hsz⟩ := okWide_struct Try.underlying106 hv
  obtain ⟨c0, c1, c2, rfl⟩ : ∃ c0 c1 c2, cs = [c0, c1, c2] := by
    have hl : cs.length = 3 := by rw [cells_cut] at hsz; exact hsz
    match cs, hl with
    | [c0, c1, c2], _ => exact ⟨c0, c1, c2, rfl⟩
  obtain ⟨fuel, hf⟩ := h
  obtain ⟨a, b, c, rfl, rfl, rfl, hw⟩ := ints_cut (show DataW.trod enc Try.prog W base sp held fuel 106 [c0, c1, c2] = some (d, p) from hf)
  exact ⟨a, b, c, rfl, hw⟩
theorem tr_slcut {H : Type} {enc : TypeId × Value → H} {W : World} {fuel : Nat} {v : Value} {x : DataW H × List MemPlace} (hf : DataW.trod enc Try.prog W 0 (fun _ => true) true fuel 45 [v] = some x) :
    ∃ (A : Option Addr) (len cap : Nat) (l : List Fo.T3), v = .slice A len cap ∧ l.length = len ∧ len ≤ maxLen ∧ len ≤ cap ∧ (A = none → cap = 0) ∧ SlT W A l ∧ ∀ c ∈ l, Fo.wf3 c := by
  rcases Go.Deep.open_slice Try.underlying45 hf with ⟨hcs, _⟩ | ⟨a, len0, cap0, m, n, D, Pl, hcs, _, hl, hm, hmm, _, hx⟩
  · simp at hcs
    subst hcs
    exact ⟨none, 0, 0, [], rfl, rfl, by unfold maxLen; omega, Nat.le_refl _, fun _ => rfl, SlT.nil _ _, fun q hq => by simp at hq⟩
  · simp at hcs
    subst hcs
    by_cases h0 : len0 = 0
    · subst h0; exact ⟨some a, 0, cap0, [], rfl, rfl, by omega, Nat.zero_le _, (fun h => by cases h), SlT.nil _ _, fun q hq => by simp at hq⟩
    rw [cells_cut] at hx
    have key : ∀ i, i < len0 → ∃ z : Fo.T3, W.cell? (a.add (i * 3)) = some (.int .i64 z.a) ∧ W.cell? ((a.add (i * 3)).add 1) = some (.int .i64 z.b) ∧ W.cell? ((a.add (i * 3)).add 2) = some (.int .i64 z.c) ∧ Fo.wf3 z := by
      intro i hi
      obtain ⟨cs', h1, h2⟩ := hx i (by rw [hmm]; simp; omega)
      obtain ⟨_, hlen, hc⟩ := World.cells?_some h1
      obtain ⟨c0, c1, c2, rfl⟩ : ∃ c0 c1 c2, cs' = [c0, c1, c2] := by
        match cs', hlen with
        | [c0, c1, c2], _ => exact ⟨c0, c1, c2, rfl⟩
      obtain ⟨x, y, z, rfl, rfl, rfl, w0, w1, w2⟩ := ints_cut h2
      exact ⟨⟨x, y, z⟩, by simpa [Addr.add] using hc 0 (by omega), hc 1 (by omega), hc 2 (by omega), w0, w1, w2⟩
    obtain ⟨f, hfx⟩ : ∃ f : Nat → Fo.T3, ∀ i, i < len0 → W.cell? (a.add (i * 3)) = some (.int .i64 (f i).a) ∧ W.cell? ((a.add (i * 3)).add 1) = some (.int .i64 (f i).b) ∧ W.cell? ((a.add (i * 3)).add 2) = some (.int .i64 (f i).c) ∧ Fo.wf3 (f i) :=
      ⟨fun i => if h : i < len0 then Classical.choose (key i h) else ⟨0, 0, 0⟩, fun i h => by simp only [h, dif_pos]; exact Classical.choose_spec (key i h)⟩
    obtain ⟨b, off, spot⟩ := a
    have hs := World.cell?_spot (hfx 0 (by omega)).1
    simp [Addr.add] at hs
    subst hs
    have e : ((List.range len0).map f).length = len0 := by simp
    refine ⟨_, len0, cap0, (List.range len0).map f, rfl, e, by omega, hl, (fun h => by cases h), fun _ => ⟨b, off, rfl, World.block_lt_of_cell? W _ (hfx 0 (by omega)).1, fun k hk => ?_⟩, fun q hq => ?_⟩
    · have hk' : k < len0 := by simpa using hk
      obtain ⟨q0, q1, q2, _⟩ := hfx k hk'
      rw [Fo.at3_eq hk]
      simp only [List.getElem_map, List.getElem_range]
      simp only [zaddr_off] at q0 q1 q2
      exact ⟨q0, q1, q2⟩
    · obtain ⟨i, hi, rfl⟩ := List.mem_map.1 hq
      exact (hfx i (List.mem_range.1 hi)).2.2.2
theorem trod_struct5 {H : Type} {enc : TypeId × Value → H} {P : Program} {w : World} {base : Nat} {spare : Nat → Bool} {held : Bool} {t : TypeId} {f0 f1 f2 f3 f4 : Field} {fuel : Nat} {cs : List Value} {x : DataW H × List MemPlace} (ht : P.underlying t = some (.struct #[f0, f1, f2, f3, f4])) (h : DataW.trod enc P w base spare held fuel t cs = some x) :
    ∃ y0 y1 y2 y3 y4 n, DataW.trod enc P w base spare held n f0.type ((cs.drop f0.offset).take (P.cellsOf f0.type)) = some y0 ∧ DataW.trod enc P w base spare held n f1.type ((cs.drop f1.offset).take (P.cellsOf f1.type)) = some y1 ∧ DataW.trod enc P w base spare held n f2.type ((cs.drop f2.offset).take (P.cellsOf f2.type)) = some y2 ∧ DataW.trod enc P w base spare held n f3.type ((cs.drop f3.offset).take (P.cellsOf f3.type)) = some y3 ∧ DataW.trod enc P w base spare held n f4.type ((cs.drop f4.offset).take (P.cellsOf f4.type)) = some y4 := by
  obtain ⟨xs, n, _, rfl, hl, hlen, hf⟩ := DataW.trod_struct ht h
  match xs, hlen with
  | [y0, y1, y2, y3, y4], _ => exact ⟨y0, y1, y2, y3, y4, n, by simpa using hf 0 f0 rfl, by simpa using hf 1 f1 rfl, by simpa using hf 2 f2 rfl, by simpa using hf 3 f3 rfl, by simpa using hf 4 f4 rfl⟩
theorem open_form {H : Type} {enc : TypeId × Value → H} {W : World} {b0 : Nat} {r : Reach} {v : Value} {d : DataW H} {p : List MemPlace}
    (hv : Value.okWide Try.prog W r b0 47 v) (h : DataW.Trod enc Try.prog W 0 (fun _ => true) true 47 v d p) :
    ∃ (s : FH) (f : Fo.Fm), v = .agg #[.int .i64 s.n, .slice s.R s.rl s.rc, .slice s.E s.el s.ec, .int .i64 s.ja, .int .i64 s.jt, .int .i64 s.jf, .slice s.C s.cl s.cc] ∧ SlF W s f ∧ (∀ c ∈ f.cs, Fo.wf3 c) ∧ s.cl ≤ s.cc ∧ Nils s := by
  obtain ⟨⟨cs⟩, rfl, hsz⟩ := okWide_struct Try.underlying47 hv
  obtain ⟨c0, c1, c2, c3, c4, c5, c6, rfl⟩ : ∃ c0 c1 c2 c3 c4 c5 c6, cs = [c0, c1, c2, c3, c4, c5, c6] := by
    have hl : cs.length = 7 := by rw [cellsForm] at hsz; exact hsz
    match cs, hl with
    | [c0, c1, c2, c3, c4, c5, c6], _ => exact ⟨c0, c1, c2, c3, c4, c5, c6, rfl⟩
  obtain ⟨fuel, hf⟩ := h
  have hf : DataW.trod enc Try.prog W 0 (fun _ => true) true fuel 47 [c0, c1, c2, c3, c4, c5, c6] = some (d, p) := hf
  obtain ⟨y0, y1, y2, y3, y4, n', t0, t1, t2, t3, t4⟩ := trod_struct5 Try.underlying47 hf
  rw [zcellsInt] at t0
  rw [cellsSl.1] at t1
  rw [cellsSl.2.1] at t2
  rw [cells_jump] at t3
  rw [cellsSl.2.2] at t4
  simp only [List.drop_zero, List.take_succ_cons, List.take_zero, List.drop_succ_cons] at t0 t1 t2 t3 t4
  obtain ⟨a0, e0, _, _⟩ := DataW.trod_int Try.underlying3 t0
  simp only [List.cons.injEq, and_true] at e0
  subst e0
  obtain ⟨A1, l1, k1, x1, rfl, h1, _, _, m1, s1, _⟩ := tr_slrepeat t1
  obtain ⟨A2, l2, k2, x2, rfl, h2, _, _, m2, s2, _⟩ := tr_slending t2
  obtain ⟨a3, a4, a5, rfl, rfl, rfl, _, _, _⟩ := ints_jump t3
  obtain ⟨A3, l3, k3, x3, rfl, h3, _, hc3, m3, s3, w3⟩ := tr_slcut t4
  exact ⟨⟨a0, A1, l1, k1, A2, l2, k2, a3, a4, a5, A3, l3, k3⟩, ⟨a0, x1, x2, a3, a4, a5, x3⟩, rfl, ⟨rfl, rfl, rfl, rfl, h1, h2, h3, s1, s2, s3⟩, w3, hc3, ⟨m1, m2, m3⟩⟩
end Go.Proofs.Ytahdlkdiadlgeaa

/- How what came in is opened: tempos. -/
namespace Go.Proofs.Ytahdlkdiadlgeaa
open Go.ChangeShapes Go.WideShapes Go.ChangeAt Go.RowKit Go.Joins
set_option maxRecDepth 100000

theorem cellsTempo : Try.prog.cellsOf 38 = 3 := by kernel_rfl
theorem ints_tempo {H : Type} {enc : TypeId × Value → H} {W : World} {base n : Nat} {sp : Nat → Bool} {held : Bool} {c0 c1 c2 : Value} {y : DataW H × List MemPlace} (h : DataW.trod enc Try.prog W base sp held n 38 [c0, c1, c2] = some y) : ∃ x : Fo.T3, c0 = .int .i64 x.a ∧ c1 = .int .i64 x.b ∧ c2 = .int .i64 x.c := by
  obtain ⟨y0, y1, n', _, _, h0, h1⟩ := trod_struct2 Try.underlying38 h
  rw [zcellsInt] at h0
  rw [cellsRat] at h1
  simp only [List.drop_zero, List.take_succ_cons, List.take_zero, List.drop_succ_cons] at h0 h1
  obtain ⟨x, e0, _, _⟩ := DataW.trod_int Try.underlying3 h0
  obtain ⟨a, b, rfl, rfl, _, _⟩ := ints_rat h1
  simp only [List.cons.injEq, and_true] at e0
  exact ⟨⟨x, a, b⟩, e0, rfl, rfl⟩
theorem open_tempo {H : Type} {enc : TypeId × Value → H} {W : World} {base b0 : Nat} {r : Reach} {sp : Nat → Bool} {held : Bool} {v : Value} {d : DataW H} {p : List MemPlace}
    (hv : Value.okWide Try.prog W r b0 38 v) (h : DataW.Trod enc Try.prog W base sp held 38 v d p) : ∃ x : Fo.T3, v = .agg #[.int .i64 x.a, .int .i64 x.b, .int .i64 x.c] := by
  obtain ⟨cs, rfl, hsz⟩ := okWide_struct Try.underlying38 hv
  obtain ⟨c0, c1, c2, rfl⟩ := array3 (hsz.trans cellsTempo)
  obtain ⟨fuel, hf⟩ := h
  obtain ⟨x, rfl, rfl, rfl⟩ := ints_tempo (show DataW.trod enc Try.prog W base sp held fuel 38 [c0, c1, c2] = some (d, p) from hf)
  exact ⟨x, rfl⟩
/-- A slice of tempos that came in. -/
theorem open_sltempo {H : Type} {enc : TypeId × Value → H} {W : World} {b0 : Nat} {r : Reach} {v : Value} {d : DataW H} {p : List MemPlace}
    (hv : Value.okWide Try.prog W r b0 23 v) (h : DataW.Trod enc Try.prog W 0 (fun _ => true) true 23 v d p) :
    ∃ (A : Option Addr) (len cap : Nat) (l : List Fo.T3), v = .slice A len cap ∧ l.length = len ∧ cap ≤ maxLen ∧ len ≤ cap ∧ SlT W A l := by
  obtain ⟨a0, len0, cap0, rfl⟩ := okWide_slice Try.underlying23 hv
  obtain ⟨fuel, hf⟩ := h
  rcases Go.Deep.open_slice Try.underlying23 hf with ⟨hcs, _⟩ | ⟨a, len, cap, m, n, D, Pl, hcs, _, hl, hm, hmm, _, hx⟩
  · simp [Value.cells] at hcs
    obtain ⟨rfl, rfl, rfl⟩ := hcs
    exact ⟨none, 0, 0, [], rfl, rfl, by unfold maxLen; omega, Nat.le_refl _, SlT.nil _ _⟩
  · simp [Value.cells] at hcs
    obtain ⟨rfl, rfl, rfl⟩ := hcs
    by_cases h0 : len0 = 0
    · subst h0; exact ⟨some a, 0, cap0, [], rfl, rfl, by omega, Nat.zero_le _, SlT.nil _ _⟩
    rw [cellsTempo] at hx
    have key : ∀ i, i < len0 → ∃ z : Fo.T3, W.cell? (a.add (i * 3)) = some (.int .i64 z.a) ∧ W.cell? ((a.add (i * 3)).add 1) = some (.int .i64 z.b) ∧ W.cell? ((a.add (i * 3)).add 2) = some (.int .i64 z.c) := by
      intro i hi
      obtain ⟨cs', h1, h2⟩ := hx i (by rw [hmm]; simp; omega)
      obtain ⟨_, hlen, hc⟩ := World.cells?_some h1
      obtain ⟨c0, c1, c2, rfl⟩ : ∃ c0 c1 c2, cs' = [c0, c1, c2] := by
        match cs', hlen with
        | [c0, c1, c2], _ => exact ⟨c0, c1, c2, rfl⟩
      obtain ⟨x, rfl, rfl, rfl⟩ := ints_tempo h2
      exact ⟨x, by simpa [Addr.add] using hc 0 (by omega), hc 1 (by omega), hc 2 (by omega)⟩
    obtain ⟨f, hfx⟩ : ∃ f : Nat → Fo.T3, ∀ i, i < len0 → W.cell? (a.add (i * 3)) = some (.int .i64 (f i).a) ∧ W.cell? ((a.add (i * 3)).add 1) = some (.int .i64 (f i).b) ∧ W.cell? ((a.add (i * 3)).add 2) = some (.int .i64 (f i).c) :=
      ⟨fun i => if h : i < len0 then Classical.choose (key i h) else ⟨0, 0, 0⟩, fun i h => by simp only [h, dif_pos]; exact Classical.choose_spec (key i h)⟩
    obtain ⟨b, off, spot⟩ := a
    have hs := World.cell?_spot (hfx 0 (by omega)).1
    simp [Addr.add] at hs
    subst hs
    have e : ((List.range len0).map f).length = len0 := by simp
    refine ⟨_, len0, cap0, (List.range len0).map f, rfl, e, by omega, hl, fun _ => ⟨b, off, rfl, World.block_lt_of_cell? W _ (hfx 0 (by omega)).1, fun k hk => ?_⟩⟩
    have hk' : k < len0 := by simpa using hk
    obtain ⟨q0, q1, q2⟩ := hfx k hk'
    rw [Fo.at3_eq hk]
    simp only [List.getElem_map, List.getElem_range]
    simp only [zaddr_off] at q0 q1 q2
    exact ⟨q0, q1, q2⟩
end Go.Proofs.Ytahdlkdiadlgeaa
