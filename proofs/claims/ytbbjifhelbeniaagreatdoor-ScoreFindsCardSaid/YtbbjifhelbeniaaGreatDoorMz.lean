import Derived.Test.YtbbjifhelbeniaaGreatDoorGW
import Derived.Test.YtbbjifhelbeniaaGreatDoorRows
import Derived.ProofKit
import Derived.OpenShut
import Derived.Lib.SmallJoins
import Derived.LaidMore
import Derived.LaidSub
import Derived.MakeChecks
import Derived.Stop.Joined
import Derived.Stop.LaidErr
import Derived.Lib.LaidTab
import Derived.Carry
import Derived.SizedLaws
import Derived.Deep.Slices
import Derived.Deep.Strs
/- How what came in is opened: scores, notes, slices of bars, parts and notes; what the listed variable gives. -/
namespace Go.Proofs.YtbbjifhelbeniaaGreatDoor
open Go.ChangeShapes Go.WideShapes Go.ChangeAt Go.RowKit Go.Joins
set_option maxRecDepth 100000

theorem own : ownKnob Tryz.prog.godebug = none := by kernel_rfl
theorem laidOut : laidOutB Tryz.prog = true := by kernel_rfl
theorem cellsInt : Tryz.prog.cellsOf 3 = 1 := by kernel_rfl
theorem cellsRat : Tryz.prog.cellsOf 41 = 2 := by kernel_rfl
theorem cellsPitch : Tryz.prog.cellsOf 47 = 3 := by kernel_rfl
theorem cellsNote : Tryz.prog.cellsOf 51 = 12 := by kernel_rfl
theorem cellsPart : Tryz.prog.cellsOf 49 = 13 := by kernel_rfl
theorem cellsIv : Tryz.prog.cellsOf 45 = 2 := by kernel_rfl
theorem cellsScore : Tryz.prog.cellsOf 26 = 4 := by kernel_rfl
theorem cellsSl : Tryz.prog.cellsOf 22 = 1 ∧ Tryz.prog.cellsOf 23 = 1 ∧ Tryz.prog.cellsOf 24 = 1 := ⟨by kernel_rfl, by kernel_rfl, by kernel_rfl⟩
theorem cellsBar : Tryz.prog.cellsOf 43 = 4 := by kernel_rfl
def inI (x : Int) : Prop := -9223372036854775808 ≤ x ∧ x ≤ 9223372036854775807
theorem wf_in {x : Int} (h : (Lit.int .i64 x).wf = true) : inI x := by
  simp only [Lit.wf, Bool.and_eq_true, decide_eq_true_eq] at h
  exact ⟨Int.le_trans (by decide) h.1, Int.le_trans h.2 (by decide)⟩
theorem wf_in16 {x : Int} (h : (Lit.int .u16 x).wf = true) : 0 ≤ x ∧ x < 65536 := by
  simp only [Lit.wf, Bool.and_eq_true, decide_eq_true_eq] at h
  exact ⟨Int.le_trans (by decide) h.1, Int.lt_of_le_of_lt h.2 (by decide)⟩
theorem wf_in8 {x : Int} (h : (Lit.int .u8 x).wf = true) : 0 ≤ x ∧ x < 256 := by
  simp only [Lit.wf, Bool.and_eq_true, decide_eq_true_eq] at h
  exact ⟨Int.le_trans (by decide) h.1, Int.lt_of_le_of_lt h.2 (by decide)⟩

theorem open_rat {H : Type} {enc : TypeId × Value → H} {W : World} {base b0 : Nat} {r : Reach} {sp : Nat → Bool} {held : Bool} {v : Value} {d : DataW H} {p : List MemPlace}
    (hv : Value.okWide Tryz.prog W r b0 41 v) (h : DataW.Trod enc Tryz.prog W base sp held 41 v d p) : ∃ a b : Int, v = .agg #[.int .i64 a, .int .i64 b] ∧ inI a ∧ inI b := by
  obtain ⟨c0, c1, y0, y1, m, rfl, rfl, rfl, hy0, hy1⟩ := open_agg2 Tryz.underlying41 (by kernel_rfl) cellsRat hv h
  obtain ⟨a, e0, rfl, wa⟩ := DataW.trod_int Tryz.underlying3 hy0
  obtain ⟨b, e1, rfl, wb⟩ := DataW.trod_int Tryz.underlying3 hy1
  simp at e0 e1
  subst e0 e1
  exact ⟨a, b, rfl, wf_in wa, wf_in wb⟩
theorem ints_rat {H : Type} {enc : TypeId × Value → H} {W : World} {base n : Nat} {sp : Nat → Bool} {held : Bool} {c0 c1 : Value} {y : DataW H × List MemPlace} (h : DataW.trod enc Tryz.prog W base sp held n 41 [c0, c1] = some y) : ∃ a b : Int, c0 = .int .i64 a ∧ c1 = .int .i64 b ∧ inI a ∧ inI b := by
  obtain ⟨y0, y1, n', _, _, t0, t1⟩ := trod_struct2 Tryz.underlying41 h
  rw [cellsInt] at t0 t1
  simp only [List.drop_zero, List.take_succ_cons, List.take_zero, List.drop_succ_cons] at t0 t1
  obtain ⟨x, e0, _, w0⟩ := DataW.trod_int Tryz.underlying3 t0
  obtain ⟨z, e1, _, w1⟩ := DataW.trod_int Tryz.underlying3 t1
  simp only [List.cons.injEq, and_true] at e0 e1
  exact ⟨x, z, e0, e1, wf_in w0, wf_in w1⟩
theorem tr_slbar {H : Type} {enc : TypeId × Value → H} {W : World} {fuel : Nat} {v : Value} {x : DataW H × List MemPlace} (hf : DataW.trod enc Tryz.prog W 0 (fun _ => true) true fuel 22 [v] = some x) :
    ∃ (A : Option Addr) (len cap : Nat) (l : List Mt.B), v = .slice A len cap ∧ l.length = len ∧ len ≤ maxLen ∧ len ≤ cap ∧ (A = none → cap = 0) ∧ SlB W A l ∧ Mt.Wf l := by
  rcases Go.Deep.open_slice Tryz.underlying22 hf with ⟨hcs, _⟩ | ⟨a, len0, cap0, m, n, D, Pl, hcs, _, hl, hm, hmm, _, hx⟩
  · simp at hcs
    subst hcs
    exact ⟨none, 0, 0, [], rfl, rfl, by unfold maxLen; omega, Nat.le_refl _, fun _ => rfl, (fun h0 => by simp at h0), fun j hj => by simp at hj⟩
  · simp at hcs
    subst hcs
    by_cases h0 : len0 = 0
    · subst h0; exact ⟨some a, 0, cap0, [], rfl, rfl, by omega, Nat.zero_le _, (fun h => by cases h), (fun h0 => by simp at h0), fun j hj => by simp at hj⟩
    rw [cellsBar] at hx
    have key : ∀ i, i < len0 → ∃ z : Mt.B, W.cell? (a.add (i * 4)) = some (.int .i64 z.1) ∧ W.cell? ((a.add (i * 4)).add 1) = some (.int .i64 z.2.1) ∧ W.cell? ((a.add (i * 4)).add 2) = some (.int .i64 z.2.2.1) ∧ W.cell? ((a.add (i * 4)).add 3) = some (.int .i64 z.2.2.2) ∧ inI z.1 := by
      intro i hi
      obtain ⟨cs', h1, h2⟩ := hx i (by rw [hmm]; simp; omega)
      obtain ⟨_, hlen, hc⟩ := World.cells?_some h1
      obtain ⟨c0, c1, c2, c3, rfl⟩ : ∃ c0 c1 c2 c3, cs' = [c0, c1, c2, c3] := by
        match cs', hlen with
        | [c0, c1, c2, c3], _ => exact ⟨c0, c1, c2, c3, rfl⟩
      obtain ⟨y0, y1, y2, n', _, _, t0, t1, t2⟩ := Go.Deep.trod_struct3 Tryz.underlying43 h2
      have q0 := hc 0 (by omega)
      have q1 := hc 1 (by omega)
      have q2 := hc 2 (by omega)
      have q3 := hc 3 (by omega)
      rw [cellsInt] at t0 t2
      rw [cellsRat] at t1
      simp only [List.drop_zero, List.take_succ_cons, List.take_zero, List.drop_succ_cons] at t0 t1 t2
      obtain ⟨x, e0, _, w0⟩ := DataW.trod_int Tryz.underlying3 t0
      obtain ⟨y, z, rfl, rfl, _, _⟩ := ints_rat t1
      obtain ⟨u, e2, _, _⟩ := DataW.trod_int Tryz.underlying3 t2
      simp only [List.cons.injEq, and_true] at e0 e2
      subst e0 e2
      exact ⟨(x, y, z, u), by simpa [Addr.add] using q0, q1, q2, q3, wf_in w0⟩
    obtain ⟨f, hfx⟩ : ∃ f : Nat → Mt.B, ∀ i, i < len0 → W.cell? (a.add (i * 4)) = some (.int .i64 (f i).1) ∧ W.cell? ((a.add (i * 4)).add 1) = some (.int .i64 (f i).2.1) ∧ W.cell? ((a.add (i * 4)).add 2) = some (.int .i64 (f i).2.2.1) ∧ W.cell? ((a.add (i * 4)).add 3) = some (.int .i64 (f i).2.2.2) ∧ inI (f i).1 :=
      ⟨fun i => if h : i < len0 then Classical.choose (key i h) else (0, 0, 0, 0), fun i h => by simp only [h, dif_pos]; exact Classical.choose_spec (key i h)⟩
    obtain ⟨b, off, spot⟩ := a
    have hs := World.cell?_spot (hfx 0 (by omega)).1
    simp [Addr.add] at hs
    subst hs
    have e : ((List.range len0).map f).length = len0 := by simp
    refine ⟨_, len0, cap0, (List.range len0).map f, rfl, e, by omega, hl, (fun h => by cases h), fun _ => ⟨b, off, rfl, World.block_lt_of_cell? W _ (hfx 0 (by omega)).1, fun k hk => ?_⟩, fun k hk => ?_⟩
    · have hk' : k < len0 := by simpa using hk
      obtain ⟨q0, q1, q2, q3, _⟩ := hfx k hk'
      rw [atB_eq hk]
      simp only [List.getElem_map, List.getElem_range]
      simp only [baddr_off] at q0 q1 q2 q3
      exact ⟨q0, q1, q2, q3⟩
    · have hk' : k < len0 := by simpa using hk
      rw [atB_eq hk]
      simp only [List.getElem_map, List.getElem_range]
      exact (hfx k hk').2.2.2.2

theorem ints_pitch {H : Type} {enc : TypeId × Value → H} {W : World} {base n : Nat} {sp : Nat → Bool} {held : Bool} {c0 c1 c2 : Value} {y : DataW H × List MemPlace} (h : DataW.trod enc Tryz.prog W base sp held n 47 [c0, c1, c2] = some y) : ∃ a b c : Int, c0 = .int .i64 a ∧ c1 = .int .i64 b ∧ c2 = .int .i64 c := by
  obtain ⟨y0, y1, y2, n', _, _, t0, t1, t2⟩ := Go.Deep.trod_struct3 Tryz.underlying47 h
  rw [cellsInt] at t0 t1 t2
  simp only [List.drop_zero, List.take_succ_cons, List.take_zero, List.drop_succ_cons] at t0 t1 t2
  obtain ⟨x, e0, _, _⟩ := DataW.trod_int Tryz.underlying3 t0
  obtain ⟨z, e1, _, _⟩ := DataW.trod_int Tryz.underlying3 t1
  obtain ⟨u, e2, _, _⟩ := DataW.trod_int Tryz.underlying3 t2
  simp only [List.cons.injEq, and_true] at e0 e1 e2
  exact ⟨x, z, u, e0, e1, e2⟩
theorem open_pitch {H : Type} {enc : TypeId × Value → H} {W : World} {base b0 : Nat} {r : Reach} {sp : Nat → Bool} {held : Bool} {v : Value} {d : DataW H} {p : List MemPlace}
    (hv : Value.okWide Tryz.prog W r b0 47 v) (h : DataW.Trod enc Tryz.prog W base sp held 47 v d p) : ∃ a b c : Int, v = .agg #[.int .i64 a, .int .i64 b, .int .i64 c] := by
  obtain ⟨cs, rfl, hsz⟩ := okWide_struct Tryz.underlying47 hv
  obtain ⟨c0, c1, c2, rfl⟩ := array3 (hsz.trans cellsPitch)
  obtain ⟨fuel, hf⟩ := h
  obtain ⟨a, b, c, rfl, rfl, rfl⟩ := ints_pitch hf
  exact ⟨a, b, c, rfl⟩
theorem trod_struct8 {H : Type} {enc : TypeId × Value → H} {P : Program} {w : World} {base : Nat} {spare : Nat → Bool} {held : Bool} {t : TypeId} {f0 f1 f2 f3 f4 f5 f6 f7 : Field} {fuel : Nat} {cs : List Value} {x : DataW H × List MemPlace} (ht : P.underlying t = some (.struct #[f0, f1, f2, f3, f4, f5, f6, f7])) (h : DataW.trod enc P w base spare held fuel t cs = some x) :
    ∃ y0 y1 y2 y3 y4 y5 y6 y7 n, DataW.trod enc P w base spare held n f0.type ((cs.drop f0.offset).take (P.cellsOf f0.type)) = some y0 ∧ DataW.trod enc P w base spare held n f1.type ((cs.drop f1.offset).take (P.cellsOf f1.type)) = some y1 ∧ DataW.trod enc P w base spare held n f2.type ((cs.drop f2.offset).take (P.cellsOf f2.type)) = some y2 ∧ DataW.trod enc P w base spare held n f3.type ((cs.drop f3.offset).take (P.cellsOf f3.type)) = some y3 ∧ DataW.trod enc P w base spare held n f4.type ((cs.drop f4.offset).take (P.cellsOf f4.type)) = some y4 ∧ DataW.trod enc P w base spare held n f5.type ((cs.drop f5.offset).take (P.cellsOf f5.type)) = some y5 ∧ DataW.trod enc P w base spare held n f6.type ((cs.drop f6.offset).take (P.cellsOf f6.type)) = some y6 ∧ DataW.trod enc P w base spare held n f7.type ((cs.drop f7.offset).take (P.cellsOf f7.type)) = some y7 := by
  obtain ⟨xs, n, _, rfl, hl, hlen, hf⟩ := DataW.trod_struct ht h
  match xs, hlen with
  | [y0, y1, y2, y3, y4, y5, y6, y7], _ => exact ⟨y0, y1, y2, y3, y4, y5, y6, y7, n, by simpa using hf 0 f0 rfl, by simpa using hf 1 f1 rfl, by simpa using hf 2 f2 rfl, by simpa using hf 3 f3 rfl, by simpa using hf 4 f4 rfl, by simpa using hf 5 f5 rfl, by simpa using hf 6 f6 rfl, by simpa using hf 7 f7 rfl⟩
theorem ints_iv {H : Type} {enc : TypeId × Value → H} {W : World} {base n : Nat} {sp : Nat → Bool} {held : Bool} {c0 c1 : Value} {y : DataW H × List MemPlace} (h : DataW.trod enc Tryz.prog W base sp held n 45 [c0, c1] = some y) : ∃ a b : Int, c0 = .int .i64 a ∧ c1 = .int .i64 b := by
  obtain ⟨y0, y1, n', _, _, t0, t1⟩ := trod_struct2 Tryz.underlying45 h
  rw [cellsInt] at t0 t1
  simp only [List.drop_zero, List.take_succ_cons, List.take_zero, List.drop_succ_cons] at t0 t1
  obtain ⟨x, e0, _, _⟩ := DataW.trod_int Tryz.underlying3 t0
  obtain ⟨z, e1, _, _⟩ := DataW.trod_int Tryz.underlying3 t1
  simp only [List.cons.injEq, and_true] at e0 e1
  exact ⟨x, z, e0, e1⟩
theorem ints_part {H : Type} {enc : TypeId × Value → H} {W : World} {base n : Nat} {sp : Nat → Bool} {held : Bool} {c0 c1 c2 c3 c4 c5 c6 c7 c8 c9 c10 c11 c12 : Value} {y : DataW H × List MemPlace} (h : DataW.trod enc Tryz.prog W base sp held n 49 [c0, c1, c2, c3, c4, c5, c6, c7, c8, c9, c10, c11, c12] = some y) :
    ∃ m : Sc.Pt, rowQ m = [c0, c1, c2, c3, c4, c5, c6, c7, c8, c9, c10, c11, c12] ∧ inI m.id ∧ inI m.f := by
  obtain ⟨y0, y1, y2, y3, y4, y5, y6, y7, n', t0, t1, t2, t3, t4, t5, t6, t7⟩ := trod_struct8 Tryz.underlying49 h
  rw [cellsInt] at t0 t1 t2 t3 t4
  rw [cellsIv] at t5
  rw [cellsPitch] at t6 t7
  simp only [List.drop_zero, List.take_succ_cons, List.take_zero, List.drop_succ_cons] at t0 t1 t2 t3 t4 t5 t6 t7
  obtain ⟨a0, e0, _, w0⟩ := DataW.trod_int Tryz.underlying3 t0
  obtain ⟨a1, e1, _, _⟩ := DataW.trod_int Tryz.underlying3 t1
  obtain ⟨a2, e2, _, w2⟩ := DataW.trod_int Tryz.underlying3 t2
  obtain ⟨a3, e3, _, _⟩ := DataW.trod_int Tryz.underlying3 t3
  obtain ⟨a4, e4, _, _⟩ := DataW.trod_int Tryz.underlying3 t4
  obtain ⟨a5, a6, rfl, rfl⟩ := ints_iv t5
  obtain ⟨a7, a8, a9, rfl, rfl, rfl⟩ := ints_pitch t6
  obtain ⟨a10, a11, a12, rfl, rfl, rfl⟩ := ints_pitch t7
  simp only [List.cons.injEq, and_true] at e0 e1 e2 e3 e4
  subst e0 e1 e2 e3 e4
  exact ⟨⟨a0, a1, a2, a3, a4, a5, a6, a7, a8, a9, a10, a11, a12⟩, rfl, wf_in w0, wf_in w2⟩
theorem ints_note {H : Type} {enc : TypeId × Value → H} {W : World} {base n : Nat} {sp : Nat → Bool} {held : Bool} {c0 c1 c2 c3 c4 c5 c6 c7 c8 c9 c10 c11 : Value} {y : DataW H × List MemPlace} (h : DataW.trod enc Tryz.prog W base sp held n 51 [c0, c1, c2, c3, c4, c5, c6, c7, c8, c9, c10, c11] = some y) :
    ∃ m : No.Nt, rowO m = [c0, c1, c2, c3, c4, c5, c6, c7, c8, c9, c10, c11] ∧ inI m.id ∧ inI m.ba := by
  obtain ⟨y0, y1, y2, y3, y4, y5, y6, y7, n', t0, t1, t2, t3, t4, t5, t6, t7⟩ := trod_struct8 Tryz.underlying51 h
  rw [cellsInt] at t0 t1 t2 t3 t4
  rw [cellsRat] at t5 t6
  rw [cellsPitch] at t7
  simp only [List.drop_zero, List.take_succ_cons, List.take_zero, List.drop_succ_cons] at t0 t1 t2 t3 t4 t5 t6 t7
  obtain ⟨a0, e0, _, w0⟩ := DataW.trod_int Tryz.underlying3 t0
  obtain ⟨a1, e1, _, _⟩ := DataW.trod_int Tryz.underlying3 t1
  obtain ⟨a2, e2, _, w2⟩ := DataW.trod_int Tryz.underlying3 t2
  obtain ⟨a3, e3, _, _⟩ := DataW.trod_int Tryz.underlying3 t3
  obtain ⟨a4, e4, _, _⟩ := DataW.trod_int Tryz.underlying3 t4
  obtain ⟨a5, a6, rfl, rfl, _, _⟩ := ints_rat t5
  obtain ⟨a7, a8, rfl, rfl, _, _⟩ := ints_rat t6
  obtain ⟨a9, a10, a11, rfl, rfl, rfl⟩ := ints_pitch t7
  simp only [List.cons.injEq, and_true] at e0 e1 e2 e3 e4
  subst e0 e1 e2 e3 e4
  exact ⟨⟨a0, a1, a2, a3, a4, a5, a6, a7, a8, a9, a10, a11⟩, rfl, wf_in w0, wf_in w2⟩
theorem tr_slnote {H : Type} {enc : TypeId × Value → H} {W : World} {fuel : Nat} {v : Value} {x : DataW H × List MemPlace} (hf : DataW.trod enc Tryz.prog W 0 (fun _ => true) true fuel 24 [v] = some x) :
    ∃ (A : Option Addr) (len cap : Nat) (l : List No.Nt), v = .slice A len cap ∧ l.length = len ∧ len ≤ maxLen ∧ len ≤ cap ∧ (A = none → cap = 0) ∧ SlO W A l ∧ No.Wf l := by
  rcases Go.Deep.open_slice Tryz.underlying24 hf with ⟨hcs, _⟩ | ⟨a, len0, cap0, m, n, D, Pl, hcs, _, hl, hm, hmm, _, hx⟩
  · simp at hcs
    subst hcs
    exact ⟨none, 0, 0, [], rfl, rfl, by unfold maxLen; omega, Nat.le_refl _, fun _ => rfl, (fun h0 => by simp at h0), fun j hj => by simp at hj⟩
  · simp at hcs
    subst hcs
    by_cases h0 : len0 = 0
    · subst h0; exact ⟨some a, 0, cap0, [], rfl, rfl, by omega, Nat.zero_le _, (fun h => by cases h), (fun h0 => by simp at h0), fun j hj => by simp at hj⟩
    rw [cellsNote] at hx
    have key : ∀ i, i < len0 → ∃ z : No.Nt, (∀ j u, (rowO z)[j]? = some u → W.cell? ((a.add (i * 12)).add j) = some u) ∧ inI z.id ∧ inI z.ba := by
      intro i hi
      obtain ⟨cs', h1, h2⟩ := hx i (by rw [hmm]; simp; omega)
      obtain ⟨_, hlen, hc⟩ := World.cells?_some h1
      obtain ⟨c0, c1, c2, c3, c4, c5, c6, c7, c8, c9, c10, c11, rfl⟩ : ∃ c0 c1 c2 c3 c4 c5 c6 c7 c8 c9 c10 c11, cs' = [c0, c1, c2, c3, c4, c5, c6, c7, c8, c9, c10, c11] := by
        match cs', hlen with
        | [c0, c1, c2, c3, c4, c5, c6, c7, c8, c9, c10, c11], _ => exact ⟨c0, c1, c2, c3, c4, c5, c6, c7, c8, c9, c10, c11, rfl⟩
      obtain ⟨m, hm, w1, w2⟩ := ints_note h2
      refine ⟨m, fun j u hj => ?_, w1, w2⟩
      have hj12 : j < 12 := by have := (List.getElem?_eq_some_iff.1 hj).1; simpa [rowO] using this
      rw [hm] at hj
      have q := hc j hj12
      rw [hj] at q
      exact q
    obtain ⟨f, hfx⟩ : ∃ f : Nat → No.Nt, ∀ i, i < len0 → (∀ j u, (rowO (f i))[j]? = some u → W.cell? ((a.add (i * 12)).add j) = some u) ∧ inI (f i).id ∧ inI (f i).ba :=
      ⟨fun i => if h : i < len0 then Classical.choose (key i h) else ⟨0, 0, 0, 0, 0, 0, 0, 0, 0, 0, 0, 0⟩, fun i h => by simp only [h, dif_pos]; exact Classical.choose_spec (key i h)⟩
    obtain ⟨b, off, spot⟩ := a
    have hs := World.cell?_spot ((hfx 0 (by omega)).1 0 _ rfl)
    simp [Addr.add] at hs
    subst hs
    have e : ((List.range len0).map f).length = len0 := by simp
    refine ⟨_, len0, cap0, (List.range len0).map f, rfl, e, by omega, hl, (fun h => by cases h), fun _ => ⟨b, off, rfl, World.block_lt_of_cell? W _ ((hfx 0 (by omega)).1 0 _ rfl), fun k hk => ?_⟩, fun k hk => ?_⟩
    · have hk' : k < len0 := by simpa using hk
      obtain ⟨q, _⟩ := hfx k hk'
      rw [atO_eq hk]
      simp only [List.getElem_map, List.getElem_range]
      refine NtAt.of fun j u hj => ?_
      have := q j u hj
      simp only [baddr_off] at this
      exact this
    · have hk' : k < len0 := by simpa using hk
      rw [atO_eq hk]
      simp only [List.getElem_map, List.getElem_range]
      exact (hfx k hk').2
theorem tr_slpart {H : Type} {enc : TypeId × Value → H} {W : World} {fuel : Nat} {v : Value} {x : DataW H × List MemPlace} (hf : DataW.trod enc Tryz.prog W 0 (fun _ => true) true fuel 23 [v] = some x) :
    ∃ (A : Option Addr) (len cap : Nat) (l : List Sc.Pt), v = .slice A len cap ∧ l.length = len ∧ len ≤ maxLen ∧ len ≤ cap ∧ (A = none → cap = 0) ∧ SlQ W A l ∧ Sc.Wf l := by
  rcases Go.Deep.open_slice Tryz.underlying23 hf with ⟨hcs, _⟩ | ⟨a, len0, cap0, m, n, D, Pl, hcs, _, hl, hm, hmm, _, hx⟩
  · simp at hcs
    subst hcs
    exact ⟨none, 0, 0, [], rfl, rfl, by unfold maxLen; omega, Nat.le_refl _, fun _ => rfl, (fun h0 => by simp at h0), fun q hq => by simp at hq⟩
  · simp at hcs
    subst hcs
    by_cases h0 : len0 = 0
    · subst h0; exact ⟨some a, 0, cap0, [], rfl, rfl, by omega, Nat.zero_le _, (fun h => by cases h), (fun h0 => by simp at h0), fun q hq => by simp at hq⟩
    rw [cellsPart] at hx
    have key : ∀ i, i < len0 → ∃ z : Sc.Pt, (∀ j u, (rowQ z)[j]? = some u → W.cell? ((a.add (i * 13)).add j) = some u) ∧ inI z.id ∧ inI z.f := by
      intro i hi
      obtain ⟨cs', h1, h2⟩ := hx i (by rw [hmm]; simp; omega)
      obtain ⟨_, hlen, hc⟩ := World.cells?_some h1
      obtain ⟨c0, c1, c2, c3, c4, c5, c6, c7, c8, c9, c10, c11, c12, rfl⟩ : ∃ c0 c1 c2 c3 c4 c5 c6 c7 c8 c9 c10 c11 c12, cs' = [c0, c1, c2, c3, c4, c5, c6, c7, c8, c9, c10, c11, c12] := by
        match cs', hlen with
        | [c0, c1, c2, c3, c4, c5, c6, c7, c8, c9, c10, c11, c12], _ => exact ⟨c0, c1, c2, c3, c4, c5, c6, c7, c8, c9, c10, c11, c12, rfl⟩
      obtain ⟨m, hm, w1, w2⟩ := ints_part h2
      refine ⟨m, fun j u hj => ?_, w1, w2⟩
      have hj13 : j < 13 := by have := (List.getElem?_eq_some_iff.1 hj).1; simpa [rowQ] using this
      rw [hm] at hj
      have q := hc j hj13
      rw [hj] at q
      exact q
    obtain ⟨f, hfx⟩ : ∃ f : Nat → Sc.Pt, ∀ i, i < len0 → (∀ j u, (rowQ (f i))[j]? = some u → W.cell? ((a.add (i * 13)).add j) = some u) ∧ inI (f i).id ∧ inI (f i).f :=
      ⟨fun i => if h : i < len0 then Classical.choose (key i h) else ⟨0, 0, 0, 0, 0, 0, 0, 0, 0, 0, 0, 0, 0⟩, fun i h => by simp only [h, dif_pos]; exact Classical.choose_spec (key i h)⟩
    obtain ⟨b, off, spot⟩ := a
    have hs := World.cell?_spot ((hfx 0 (by omega)).1 0 _ rfl)
    simp [Addr.add] at hs
    subst hs
    have e : ((List.range len0).map f).length = len0 := by simp
    refine ⟨_, len0, cap0, (List.range len0).map f, rfl, e, by omega, hl, (fun h => by cases h), fun _ => ⟨b, off, rfl, World.block_lt_of_cell? W _ ((hfx 0 (by omega)).1 0 _ rfl), fun k hk => ?_⟩, fun q hq => ?_⟩
    · have hk' : k < len0 := by simpa using hk
      obtain ⟨q, _⟩ := hfx k hk'
      rw [atQ_eq hk]
      simp only [List.getElem_map, List.getElem_range]
      refine PtAt.of fun j u hj => ?_
      have := q j u hj
      simp only [baddr_off] at this
      exact this
    · obtain ⟨i, hi, rfl⟩ := List.mem_map.1 hq
      exact (hfx i (List.mem_range.1 hi)).2
theorem open_score {H : Type} {enc : TypeId × Value → H} {W : World} {b0 : Nat} {r : Reach} {v : Value} {d : DataW H} {p : List MemPlace}
    (hv : Value.okWide Tryz.prog W r b0 26 v) (h : DataW.Trod enc Tryz.prog W 0 (fun _ => true) true 26 v d p) :
    ∃ (s : SH) (bs : List Mt.B) (ps : List Sc.Pt) (ns : List No.Nt), v = .agg #[.int .i64 s.v, .slice s.B s.bl s.bc, .slice s.P s.pl s.pc, .slice s.N s.nl s.nc] ∧ SlS W s bs ps ns ∧ WfS bs ps ns ∧ (s.N = none → s.nc = 0) := by
  obtain ⟨⟨cs⟩, rfl, hsz⟩ := okWide_struct Tryz.underlying26 hv
  obtain ⟨c0, c1, c2, c3, rfl⟩ : ∃ c0 c1 c2 c3, cs = [c0, c1, c2, c3] := by
    have hl : cs.length = 4 := by rw [cellsScore] at hsz; exact hsz
    match cs, hl with
    | [c0, c1, c2, c3], _ => exact ⟨c0, c1, c2, c3, rfl⟩
  obtain ⟨fuel, hf⟩ := h
  have hf : DataW.trod enc Tryz.prog W 0 (fun _ => true) true fuel 26 [c0, c1, c2, c3] = some (d, p) := hf
  obtain ⟨y0, y1, y2, y3, n', _, _, t0, t1, t2, t3⟩ := trod_struct4 Tryz.underlying26 hf
  rw [cellsInt] at t0
  rw [cellsSl.1] at t1
  rw [cellsSl.2.1] at t2
  rw [cellsSl.2.2] at t3
  simp only [List.drop_zero, List.take_succ_cons, List.take_zero, List.drop_succ_cons] at t0 t1 t2 t3
  obtain ⟨a0, e0, _, _⟩ := DataW.trod_int Tryz.underlying3 t0
  simp only [List.cons.injEq, and_true] at e0
  subst e0
  obtain ⟨A1, l1, k1, x1, rfl, h1, _, _, _, s1, w1⟩ := tr_slbar t1
  obtain ⟨A2, l2, k2, x2, rfl, h2, _, _, _, s2, w2⟩ := tr_slpart t2
  obtain ⟨A3, l3, k3, x3, rfl, h3, _, _, m3, s3, w3⟩ := tr_slnote t3
  exact ⟨⟨a0, A1, l1, k1, A2, l2, k2, A3, l3, k3⟩, x1, x2, x3, rfl, ⟨h1, h2, h3, s1, s2, s3⟩, ⟨w1, w2, w3⟩, m3⟩
theorem open_slnote {H : Type} {enc : TypeId × Value → H} {W : World} {b0 : Nat} {r : Reach} {v : Value} {d : DataW H} {p : List MemPlace}
    (hv : Value.okWide Tryz.prog W r b0 24 v) (h : DataW.Trod enc Tryz.prog W 0 (fun _ => true) true 24 v d p) :
    ∃ (A : Option Addr) (len cap : Nat) (l : List No.Nt), v = .slice A len cap ∧ l.length = len ∧ SlO W A l ∧ No.Wf l := by
  obtain ⟨a0, len0, cap0, rfl⟩ := okWide_slice Tryz.underlying24 hv
  obtain ⟨fuel, hf⟩ := h
  obtain ⟨A3, l3, k3, x3, e, h3, _, _, _, s3, w3⟩ := tr_slnote (v := .slice a0 len0 cap0) hf
  exact ⟨A3, l3, k3, x3, e, h3, s3, w3⟩
theorem open_note {H : Type} {enc : TypeId × Value → H} {W : World} {base b0 : Nat} {r : Reach} {sp : Nat → Bool} {held : Bool} {v : Value} {d : DataW H} {p : List MemPlace}
    (hv : Value.okWide Tryz.prog W r b0 51 v) (h : DataW.Trod enc Tryz.prog W base sp held 51 v d p) : ∃ m : No.Nt, v = .agg #[.int .i64 m.id, .int .i64 m.pa, .int .i64 m.ba, .int .i64 m.vo, .int .i64 m.os, .int .i64 m.sn, .int .i64 m.sd, .int .i64 m.ln, .int .i64 m.ld, .int .i64 m.st, .int .i64 m.al, .int .i64 m.oc] ∧ inI m.id ∧ inI m.ba := by
  obtain ⟨⟨cs⟩, rfl, hsz⟩ := okWide_struct Tryz.underlying51 hv
  obtain ⟨c0, c1, c2, c3, c4, c5, c6, c7, c8, c9, c10, c11, rfl⟩ : ∃ c0 c1 c2 c3 c4 c5 c6 c7 c8 c9 c10 c11, cs = [c0, c1, c2, c3, c4, c5, c6, c7, c8, c9, c10, c11] := by
    have hl : cs.length = 12 := by rw [cellsNote] at hsz; exact hsz
    match cs, hl with
    | [c0, c1, c2, c3, c4, c5, c6, c7, c8, c9, c10, c11], _ => exact ⟨c0, c1, c2, c3, c4, c5, c6, c7, c8, c9, c10, c11, rfl⟩
  obtain ⟨fuel, hf⟩ := h
  obtain ⟨m, hm, w1, w2⟩ := ints_note (show DataW.trod enc Tryz.prog W base sp held fuel 51 [c0, c1, c2, c3, c4, c5, c6, c7, c8, c9, c10, c11] = some (d, p) from hf)
  exact ⟨m, by rw [← hm]; rfl, w1, w2⟩
def laidK : List (String × DataW Unit) := Rows.scoreFindsRow.laid
theorem gNums : Tryz.prog.globalNamed "partbook/pitch.numbers" = some 0 := by kernel_rfl
theorem tNums : (Tryz.prog.globals[0]?).map (·.type) = some 148 := by kernel_rfl
theorem dNums : (Rows.laid_partbook_pitch_numbers : DataW Unit) = Lib.tabData .i64 [0, 2, 4, 5, 7, 9, 11] := by kernel_rfl
/-- The door's own heap meets the conditions. -/
theorem door_met (os : Os) (args : Array Value) : laidMetH Tryz.prog laidK ((World.doorLaid Tryz.prog 400 os).forCall (fun _ _ => 0) ⟨#[], args, []⟩).memory :=
  laidMetH_of_parts3 (fuel := 8) (laidMet_of_run' 8 (by kernel_rfl) (by kernel_rfl)) (by kernel_rfl) (by kernel_rfl)
theorem of_laid {W : World} (h : laidMetH Tryz.prog laidK W) : Glob W := by
  rw [MakeChecks.laidMetH_plain _ _ _ (by kernel_rfl)] at h
  have h : laidMet Tryz.prog (("partbook/pitch.numbers", Rows.laid_partbook_pitch_numbers) :: []) W := h
  rw [dNums] at h
  have T := Lib.tabIs_of_head gNums tNums Tryz.underlying148 Tryz.underlying3 (by kernel_rfl) (by kernel_rfl) h
  refine ⟨World.block_lt_of_cell? _ _ (T.cell gNums 0 (by decide)), fun s h0 h1 => ?_⟩
  rw [T.cell gNums s.toNat (by simp; omega)]
  have : s = 0 ∨ s = 1 ∨ s = 2 ∨ s = 3 ∨ s = 4 ∨ s = 5 ∨ s = 6 := by omega
  rcases this with rfl | rfl | rfl | rfl | rfl | rfl | rfl <;> rfl
end Go.Proofs.YtbbjifhelbeniaaGreatDoor
