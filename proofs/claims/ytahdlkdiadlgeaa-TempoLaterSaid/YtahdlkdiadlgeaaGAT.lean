import Derived.Test.YtahdlkdiadlgeaaGAL
import Derived.Test.YtahdlkdiadlgeaaRows
import Derived.ProofKit
import Derived.OpenShut
import Derived.Lib.SmallJoins
import Derived.LaidMore
import Derived.LaidSub
import Derived.MakeChecks
import Derived.Stop.Joined
import Derived.Carry
import Derived.SizedLaws
import Derived.Deep.Slices
import Derived.Deep.Strs
/- How what came in is opened: ratios, positions, slices of bars. -/
namespace Go.Proofs.Ytahdlkdiadlgeaa
open Go.ChangeShapes Go.WideShapes Go.ChangeAt Go.RowKit Go.Joins
set_option maxRecDepth 100000

theorem own : ownKnob Try.prog.godebug = none := by kernel_rfl
theorem laidOut : laidOutB Try.prog = true := by kernel_rfl
theorem cellsInt : Try.prog.cellsOf 3 = 1 := by kernel_rfl
theorem cellsRat : Try.prog.cellsOf 25 = 2 := by kernel_rfl
theorem cellsPos : Try.prog.cellsOf 27 = 3 := by kernel_rfl
theorem cellsBar : Try.prog.cellsOf 64 = 4 := by kernel_rfl
def inI (x : Int) : Prop := -9223372036854775808 ≤ x ∧ x ≤ 9223372036854775807
theorem wf_in {x : Int} (h : (Lit.int .i64 x).wf = true) : inI x := by
  simp only [Lit.wf, Bool.and_eq_true, decide_eq_true_eq] at h
  exact ⟨Int.le_trans (by decide) h.1, Int.le_trans h.2 (by decide)⟩
theorem wf_in8 {x : Int} (h : (Lit.int .u8 x).wf = true) : 0 ≤ x ∧ x < 256 := by
  simp only [Lit.wf, Bool.and_eq_true, decide_eq_true_eq] at h
  exact ⟨Int.le_trans (by decide) h.1, Int.lt_of_le_of_lt h.2 (by decide)⟩

theorem open_rat {H : Type} {enc : TypeId × Value → H} {W : World} {base b0 : Nat} {r : Reach} {sp : Nat → Bool} {held : Bool} {v : Value} {d : DataW H} {p : List MemPlace}
    (hv : Value.okWide Try.prog W r b0 25 v) (h : DataW.Trod enc Try.prog W base sp held 25 v d p) : ∃ a b : Int, v = .agg #[.int .i64 a, .int .i64 b] ∧ inI a ∧ inI b := by
  obtain ⟨c0, c1, y0, y1, m, rfl, rfl, rfl, hy0, hy1⟩ := open_agg2 Try.underlying25 (by kernel_rfl) cellsRat hv h
  obtain ⟨a, e0, rfl, wa⟩ := DataW.trod_int Try.underlying3 hy0
  obtain ⟨b, e1, rfl, wb⟩ := DataW.trod_int Try.underlying3 hy1
  simp at e0 e1
  subst e0 e1
  exact ⟨a, b, rfl, wf_in wa, wf_in wb⟩
theorem ints_rat {H : Type} {enc : TypeId × Value → H} {W : World} {base n : Nat} {sp : Nat → Bool} {held : Bool} {c0 c1 : Value} {y : DataW H × List MemPlace} (h : DataW.trod enc Try.prog W base sp held n 25 [c0, c1] = some y) : ∃ a b : Int, c0 = .int .i64 a ∧ c1 = .int .i64 b ∧ inI a ∧ inI b := by
  obtain ⟨y0, y1, n', _, _, t0, t1⟩ := trod_struct2 Try.underlying25 h
  rw [cellsInt] at t0 t1
  simp only [List.drop_zero, List.take_succ_cons, List.take_zero, List.drop_succ_cons] at t0 t1
  obtain ⟨x, e0, _, w0⟩ := DataW.trod_int Try.underlying3 t0
  obtain ⟨z, e1, _, w1⟩ := DataW.trod_int Try.underlying3 t1
  simp only [List.cons.injEq, and_true] at e0 e1
  exact ⟨x, z, e0, e1, wf_in w0, wf_in w1⟩
theorem open_pos {H : Type} {enc : TypeId × Value → H} {W : World} {base b0 : Nat} {r : Reach} {sp : Nat → Bool} {held : Bool} {v : Value} {d : DataW H} {p : List MemPlace}
    (hv : Value.okWide Try.prog W r b0 27 v) (h : DataW.Trod enc Try.prog W base sp held 27 v d p) : ∃ k a b : Int, v = .agg #[.int .i64 k, .int .i64 a, .int .i64 b] ∧ inI k ∧ inI a ∧ inI b := by
  obtain ⟨cs, rfl, hsz⟩ := okWide_struct Try.underlying27 hv
  obtain ⟨c0, c1, c2, rfl⟩ := array3 (hsz.trans cellsPos)
  obtain ⟨fuel, hf⟩ := h
  obtain ⟨y0, y1, n, _, _, h0, h1⟩ := trod_struct2 Try.underlying27 hf
  rw [cellsInt] at h0
  rw [cellsRat] at h1
  simp only [Value.cells, List.drop_zero, List.take_succ_cons, List.take_zero, List.drop_succ_cons] at h0 h1
  obtain ⟨x, e0, _, w0⟩ := DataW.trod_int Try.underlying3 h0
  obtain ⟨a, b, rfl, rfl, wa, wb⟩ := ints_rat h1
  simp only [List.cons.injEq, and_true] at e0
  subst e0
  exact ⟨x, a, b, rfl, wf_in w0, wa, wb⟩

/-- A slice of bars that came in. -/
theorem open_slbar {H : Type} {enc : TypeId × Value → H} {W : World} {b0 : Nat} {r : Reach} {v : Value} {d : DataW H} {p : List MemPlace}
    (hv : Value.okWide Try.prog W r b0 22 v) (h : DataW.Trod enc Try.prog W 0 (fun _ => true) true 22 v d p) :
    ∃ (A : Option Addr) (len cap : Nat) (l : List Mt.B), v = .slice A len cap ∧ l.length = len ∧ len ≤ maxLen ∧ len ≤ cap ∧ (A = none → cap = 0) ∧ SlB W A l ∧ Mt.Wf l := by
  obtain ⟨a0, len0, cap0, rfl⟩ := okWide_slice Try.underlying22 hv
  obtain ⟨fuel, hf⟩ := h
  rcases Go.Deep.open_slice Try.underlying22 hf with ⟨hcs, _⟩ | ⟨a, len, cap, m, n, D, Pl, hcs, _, hl, hm, hmm, _, hx⟩
  · simp [Value.cells] at hcs
    obtain ⟨rfl, rfl, rfl⟩ := hcs
    exact ⟨none, 0, 0, [], rfl, rfl, by unfold maxLen; omega, Nat.le_refl _, fun _ => rfl, (fun h0 => by simp at h0), fun j hj => by simp at hj⟩
  · simp [Value.cells] at hcs
    obtain ⟨rfl, rfl, rfl⟩ := hcs
    by_cases h0 : len0 = 0
    · subst h0; exact ⟨some a, 0, cap0, [], rfl, rfl, by omega, Nat.zero_le _, (fun h => by cases h), (fun h0 => by simp at h0), fun j hj => by simp at hj⟩
    rw [cellsBar] at hx
    have key : ∀ i, i < len0 → ∃ z : Mt.B, W.cell? (a.add (i * 4)) = some (.int .i64 z.1) ∧ W.cell? ((a.add (i * 4)).add 1) = some (.int .i64 z.2.1) ∧ W.cell? ((a.add (i * 4)).add 2) = some (.int .i64 z.2.2.1) ∧ W.cell? ((a.add (i * 4)).add 3) = some (.int .i64 z.2.2.2) ∧ inI z.1 := by
      intro i hi
      obtain ⟨cs', h1, h2⟩ := hx i (by rw [hmm]; simp; omega)
      obtain ⟨_, hlen, hc⟩ := World.cells?_some h1
      obtain ⟨c0, c1, c2, c3, rfl⟩ : ∃ c0 c1 c2 c3, cs' = [c0, c1, c2, c3] := by
        match cs', hlen with
        | [c0, c1, c2, c3], _ => exact ⟨c0, c1, c2, c3, rfl⟩
      obtain ⟨y0, y1, y2, n', _, _, t0, t1, t2⟩ := Go.Deep.trod_struct3 Try.underlying64 h2
      have q0 := hc 0 (by omega)
      have q1 := hc 1 (by omega)
      have q2 := hc 2 (by omega)
      have q3 := hc 3 (by omega)
      rw [cellsInt] at t0 t2
      rw [cellsRat] at t1
      simp only [List.drop_zero, List.take_succ_cons, List.take_zero, List.drop_succ_cons] at t0 t1 t2
      obtain ⟨x, e0, _, w0⟩ := DataW.trod_int Try.underlying3 t0
      obtain ⟨y, z, rfl, rfl, _, _⟩ := ints_rat t1
      obtain ⟨u, e2, _, _⟩ := DataW.trod_int Try.underlying3 t2
      simp only [List.cons.injEq, and_true] at e0 e2
      subst e0 e2
      exact ⟨(x, y, z, u), by simpa [Addr.add] using q0, q1, q2, q3, wf_in w0⟩
    obtain ⟨f, hfx⟩ : ∃ f : Nat → Mt.B, ∀ i, i < len0 → W.cell? (a.add (i * 4)) = some (.int .i64 (f i).1) ∧ W.cell? ((a.add (i * 4)).add 1) = some (.int .i64 (f i).2.1) ∧ W.cell? ((a.add (i * 4)).add 2) = some (.int .i64 (f i).2.2.1) ∧ W.cell? ((a.add (i * 4)).add 3) = some (.int .i64 (f i).2.2.2) ∧ inI (f i).1 :=
      ⟨fun i => if h : i < len0 then Classical.choose (key i h) else (0, 0, 0, 0), fun i h => by simp only [h, dif_pos]; exact Classical.choose_spec (key i h)⟩
    obtain ⟨b, off, spot⟩ := a
    have hs := World.cell?_spot (hfx 0 (by omega)).1
    simp [Addr.add] at hs
    subst hs
    have e : ((List.range len0).map f).length = len0 := by simp
    refine ⟨_, len0, cap0, (List.range len0).map f, rfl, e, by omega, hl, (fun h => by cases h), fun _ => ⟨b, off, rfl, World.block_lt_of_cell? W _ (hfx 0 (by omega)).1, fun k hk => ?_⟩, fun k hk => ?_⟩
    · have hk' : k < len0 := by simpa using hk
      obtain ⟨q0, q1, q2, q3, _⟩ := hfx k hk'
      rw [atB_eq hk]
      simp only [List.getElem_map, List.getElem_range]
      simp only [baddr_off] at q0 q1 q2 q3
      exact ⟨q0, q1, q2, q3⟩
    · have hk' : k < len0 := by simpa using hk
      rw [atB_eq hk]
      simp only [List.getElem_map, List.getElem_range]
      exact (hfx k hk').2.2.2.2
end Go.Proofs.Ytahdlkdiadlgeaa
