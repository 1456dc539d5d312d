/- How what came in is opened: integers, slices of integers, of bytes, of slices. -/
import Derived.Test.YtnnhpbkhfaaaeaaRows
import Derived.Test.YtnnhpbkhfaaaeaaSm
import Derived.ProofKit
import Derived.OpenShut
import Derived.Lib.SmallJoins
import Derived.LaidMore
import Derived.LaidSub
import Derived.MakeChecks
import Derived.Stop.Joined
import Derived.Carry
import Derived.SizedLaws
import Derived.Deep.Slices
import Derived.Deep.Matrix
namespace Go.Proofs.Ytnnhpbkhfaaaeaa
open Go.ChangeShapes Go.WideShapes Go.ChangeAt Go.RowKit Go.Joins

theorem own : ownKnob Try.prog.godebug = none := by kernel_rfl
theorem laidOut : laidOutB Try.prog = true := by kernel_rfl
theorem cellsInt : Try.prog.cellsOf 3 = 1 := by kernel_rfl
theorem cellsByte : Try.prog.cellsOf 5 = 1 := by kernel_rfl
theorem cellsRow : Try.prog.cellsOf 22 = 1 := by kernel_rfl
theorem wf_in {x : Int} (h : (Lit.int .i64 x).wf = true) : -9223372036854775808 ≤ x ∧ x ≤ 9223372036854775807 := by
  simp only [Lit.wf, Bool.and_eq_true, decide_eq_true_eq] at h
  exact ⟨Int.le_trans (by decide) h.1, Int.le_trans h.2 (by decide)⟩
theorem wf_in8 {x : Int} (h : (Lit.int .u8 x).wf = true) : 0 ≤ x ∧ x < 256 := by
  simp only [Lit.wf, Bool.and_eq_true, decide_eq_true_eq] at h
  exact ⟨Int.le_trans (by decide) h.1, Int.lt_of_le_of_lt h.2 (by decide)⟩
theorem wf_in16 {x : Int} (h : (Lit.int .u16 x).wf = true) : 0 ≤ x ∧ x < 65536 := by
  simp only [Lit.wf, Bool.and_eq_true, decide_eq_true_eq] at h
  exact ⟨Int.le_trans (by decide) h.1, Int.lt_of_le_of_lt h.2 (by decide)⟩

/-- Some slice of integers of one kind that came in. -/
theorem open_any {H : Type} {enc : TypeId × Value → H} {W : World} {b0 : Nat} {r : Reach} {v : Value} {d : DataW H} {p : List MemPlace} {t e : TypeId} {k : IntKind} (ut : Try.prog.underlying t = some (.slice e)) (ue : Try.prog.underlying e = some (.int k)) (ce : Try.prog.cellsOf e = 1)
    (hv : Value.okWide Try.prog W r b0 t v) (h : DataW.Trod enc Try.prog W 0 (fun _ => true) true t v d p) :
    ∃ (A : Option Addr) (len cap : Nat) (g : List Int), v = .slice A len cap ∧ g.length = len ∧ (A = none → cap = 0) ∧ SlK k W A g ∧ (∀ x ∈ g, (Lit.int k x).wf = true) ∧ len ≤ cap := by
  obtain ⟨a0, len0, cap0, rfl⟩ := okWide_slice ut hv
  obtain ⟨fuel, hf⟩ := h
  rcases open_ints ut ue ce hf with ⟨hcs, hx⟩ | ⟨a, len, cap, zs, hcs, _, hl, hm, hlen, hx, hc, hw⟩
  · simp [Value.cells] at hcs
    obtain ⟨rfl, rfl, rfl⟩ := hcs
    cases hx
    exact ⟨none, 0, 0, [], rfl, rfl, fun _ => rfl, SlK.nil _ _ _, fun x hx => by simp at hx, Nat.le_refl _⟩
  · simp [Value.cells] at hcs
    obtain ⟨rfl, rfl, rfl⟩ := hcs
    cases hx
    have hle : len0 ≤ zs.length := by rw [hlen]; split <;> omega
    refine ⟨some a, len0, cap0, zs.take len0, rfl, by simp; omega, (fun h => by cases h), fun h0 => ?_, fun x hx => hw x (List.mem_of_mem_take hx), hl⟩
    have h0' : 0 < zs.length := by simp at h0; omega
    obtain ⟨b, off, spot⟩ := a
    have hs := World.cell?_spot (hc 0 h0')
    simp [Addr.add] at hs
    subst hs
    refine ⟨b, off, rfl, World.block_lt_of_cell? W _ (hc 0 h0'), fun i hi => ?_⟩
    simp at hi
    have := hc i (by omega)
    rw [addr_off] at this
    rw [this]
    unfold atI
    rw [List.getElem?_take, if_pos (by omega), List.getD_eq_getElem?_getD]
/-- A slice of integers that came in. -/
theorem open_slk {H : Type} {enc : TypeId × Value → H} {W : World} {b0 : Nat} {r : Reach} {v : Value} {d : DataW H} {p : List MemPlace}
    (hv : Value.okWide Try.prog W r b0 22 v) (h : DataW.Trod enc Try.prog W 0 (fun _ => true) true 22 v d p) :
    ∃ (A : Option Addr) (len cap : Nat) (g : List Int), v = .slice A len cap ∧ g.length = len ∧ (A = none → cap = 0) ∧ SlK .i64 W A g ∧ (∀ x ∈ g, -9223372036854775808 ≤ x ∧ x ≤ 9223372036854775807) ∧ len ≤ cap := by
  obtain ⟨A, len, cap, g, h1, h2, h3, h4, h5, h6⟩ := open_any Try.underlying22 Try.underlying3 cellsInt hv h
  exact ⟨A, len, cap, g, h1, h2, h3, h4, fun x hx => wf_in (h5 x hx), h6⟩
/-- A slice of bytes that came in. -/
theorem open_slb {H : Type} {enc : TypeId × Value → H} {W : World} {b0 : Nat} {r : Reach} {v : Value} {d : DataW H} {p : List MemPlace}
    (hv : Value.okWide Try.prog W r b0 23 v) (h : DataW.Trod enc Try.prog W 0 (fun _ => true) true 23 v d p) :
    ∃ (A : Option Addr) (len cap : Nat) (g : List Nat), v = .slice A len cap ∧ g.length = len ∧ (A = none → cap = 0) ∧ SlN .u8 W A g ∧ (∀ x ∈ g, x < 256) ∧ len ≤ cap := by
  obtain ⟨A, len, cap, g, h1, h2, h3, h4, h5, h6⟩ := open_any Try.underlying23 Try.underlying5 cellsByte hv h
  have e : up (g.map Int.toNat) = g := by
    unfold up
    rw [List.map_map]
    conv => rhs; rw [← List.map_id g]
    apply List.map_congr_left
    intro x hx
    have := wf_in8 (h5 x hx)
    show ((x.toNat : Nat) : Int) = x
    omega
  refine ⟨A, len, cap, g.map Int.toNat, h1, by rw [List.length_map]; exact h2, h3, SlK.down (by rw [e]; exact h4), fun x hx => ?_, h6⟩
  obtain ⟨y, hy, rfl⟩ := List.mem_map.1 hx
  have := wf_in8 (h5 y hy)
  omega
/-- A slice of slices of integers that came in. -/
theorem open_sll {H : Type} {enc : TypeId × Value → H} {W : World} {b0 : Nat} {r : Reach} {v : Value} {d : DataW H} {p : List MemPlace}
    (hv : Value.okWide Try.prog W r b0 32 v) (h : DataW.Trod enc Try.prog W 0 (fun _ => true) true 32 v d p) :
    ∃ (A : Option Addr) (len cap : Nat) (l : List (List Int)), v = .slice A len cap ∧ l.length = len ∧ (A = none → cap = 0) ∧ SlL W A l ∧ (∀ g ∈ l, ∀ x ∈ g, -9223372036854775808 ≤ x ∧ x ≤ 9223372036854775807) ∧ len ≤ cap := by
  obtain ⟨a0, len0, cap0, rfl⟩ := okWide_slice Try.underlying32 hv
  obtain ⟨fuel, hf⟩ := h
  rcases Go.Deep.open_int_rows Try.underlying32 Try.underlying22 Try.underlying3 cellsRow cellsInt hf with ⟨hcs, hx⟩ | ⟨a, len, cap, A, L, C, Z, hcs, _, hl, hm, _, hr⟩
  · simp [Value.cells] at hcs
    obtain ⟨rfl, rfl, rfl⟩ := hcs
    exact ⟨none, 0, 0, [], rfl, rfl, fun _ => rfl, SlL.nil _ _, (fun g hg => by simp at hg), Nat.le_refl _⟩
  · simp [Value.cells] at hcs
    obtain ⟨rfl, rfl, rfl⟩ := hcs
    refine ⟨some a, len0, cap0, (List.range len0).map fun r => (Z r).take (L r), rfl, by simp, (fun h => by cases h), fun h0 => ?_, fun g hg x hx => ?_, hl⟩
    · have h0' : 0 < len0 := by simpa using h0
      obtain ⟨b, off, spot⟩ := a
      have hs := World.cell?_spot (hr 0 (by omega)).1
      simp [Addr.add] at hs
      subst hs
      refine ⟨b, off, rfl, World.block_lt_of_cell? W _ (hr 0 (by omega)).1, fun i hi => ?_⟩
      have hi' : i < len0 := by simpa using hi
      obtain ⟨q1, q2, q3, q4, q5, q6, q7⟩ := hr i (by omega)
      have el : atL ((List.range len0).map fun r => (Z r).take (L r)) i = (Z i).take (L i) := by rw [atL_eq hi]; simp
      have eln : ((Z i).take (L i)).length = L i := by rw [List.length_take]; omega
      rw [el, eln]
      rw [addr_off] at q1
      refine ⟨A i, C i, q1, fun hg => ?_, q6⟩
      rw [eln] at hg
      cases hA : A i with
      | none => have := q6 hA; omega
      | some a' =>
        obtain ⟨_, hc⟩ := q7 a' hA
        obtain ⟨b', off', spot'⟩ := a'
        have hs' := World.cell?_spot (hc 0 (by omega))
        simp [Addr.add] at hs'
        subst hs'
        refine ⟨b', off', rfl, World.block_lt_of_cell? W _ (hc 0 (by omega)), fun j hj => ?_⟩
        rw [eln] at hj
        have := hc j (by omega)
        rw [addr_off] at this
        rw [this]
        unfold atI
        rw [List.getElem?_take, if_pos hj, List.getD_eq_getElem?_getD]
    · obtain ⟨i, hi, rfl⟩ := List.mem_map.1 hg
      have hi' : i < len0 := by simpa using hi
      exact wf_in ((hr i (by omega)).2.2.2.2.1 x (List.mem_of_mem_take hx))
end Go.Proofs.Ytnnhpbkhfaaaeaa
