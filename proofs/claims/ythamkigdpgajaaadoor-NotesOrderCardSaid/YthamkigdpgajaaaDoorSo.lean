import Derived.Test.YthamkigdpgajaaaDoorMz
import Derived.Test.YthamkigdpgajaaaDoorSk
/- Slices of integers of any kind that came in. -/
namespace Go.Proofs.YthamkigdpgajaaaDoor
open Go.ChangeShapes Go.WideShapes Go.ChangeAt Go.RowKit Go.Joins
set_option maxRecDepth 100000

/-- Some slice of integers of one kind that came in. -/
theorem open_any {H : Type} {enc : TypeId × Value → H} {W : World} {b0 : Nat} {r : Reach} {v : Value} {d : DataW H} {p : List MemPlace} {t e : TypeId} {k : IntKind} (ut : Tryd.prog.underlying t = some (.slice e)) (ue : Tryd.prog.underlying e = some (.int k)) (ce : Tryd.prog.cellsOf e = 1)
    (hv : Value.okWide Tryd.prog W r b0 t v) (h : DataW.Trod enc Tryd.prog W 0 (fun _ => true) true t v d p) :
    ∃ (A : Option Addr) (len cap : Nat) (g : List Int), v = .slice A len cap ∧ g.length = len ∧ (A = none → cap = 0) ∧ SlK k W A g ∧ (∀ x ∈ g, (Lit.int k x).wf = true) ∧ ((d = .nil ∧ len = 0) ∨ ∃ es sp, d = .slice es sp ∧ len ≤ es.length + sp.length) := by
  obtain ⟨a0, len0, cap0, rfl⟩ := okWide_slice ut hv
  obtain ⟨fuel, hf⟩ := h
  rcases open_ints ut ue ce hf with ⟨hcs, hx⟩ | ⟨a, len, cap, zs, hcs, _, hl, hm, hlen, hx, hc, hw⟩
  · simp [Value.cells] at hcs
    obtain ⟨rfl, rfl, rfl⟩ := hcs
    cases hx
    exact ⟨none, 0, 0, [], rfl, rfl, fun _ => rfl, SlK.nil _ _ _, fun x hx => by simp at hx, .inl ⟨rfl, rfl⟩⟩
  · simp [Value.cells] at hcs
    obtain ⟨rfl, rfl, rfl⟩ := hcs
    cases hx
    have hle : len0 ≤ zs.length := by rw [hlen]; split <;> omega
    refine ⟨some a, len0, cap0, zs.take len0, rfl, by simp; omega, (fun h => by cases h), fun h0 => ?_, fun x hx => hw x (List.mem_of_mem_take hx), .inr ⟨_, _, rfl, by simp [lits]; omega⟩⟩
    have h0' : 0 < zs.length := by simp at h0; omega
    obtain ⟨b, off, spot⟩ := a
    have hs := World.cell?_spot (hc 0 h0')
    simp [Addr.add] at hs
    subst hs
    refine ⟨b, off, rfl, World.block_lt_of_cell? W _ (hc 0 h0'), fun i hi => ?_⟩
    simp at hi
    have := hc i (by omega)
    rw [addr_off] at this
    rw [this]
    unfold atI
    rw [List.getElem?_take, if_pos (by omega), List.getD_eq_getElem?_getD]
theorem cellsU8 : Tryd.prog.cellsOf 5 = 1 := by kernel_rfl
/-- A slice of bytes that came in. -/
theorem open_slu8 {H : Type} {enc : TypeId × Value → H} {W : World} {b0 : Nat} {r : Reach} {v : Value} {d : DataW H} {p : List MemPlace}
    (hv : Value.okWide Tryd.prog W r b0 36 v) (h : DataW.Trod enc Tryd.prog W 0 (fun _ => true) true 36 v d p) :
    ∃ (A : Option Addr) (len cap : Nat) (g : List Int), v = .slice A len cap ∧ g.length = len ∧ (A = none → cap = 0) ∧ SlK .u8 W A g ∧ ∀ x ∈ g, 0 ≤ x ∧ x < 256 := by
  obtain ⟨A, len, cap, g, h1, h2, h3, h4, h5, _⟩ := open_any Tryd.underlying36 Tryd.underlying5 cellsU8 hv h
  exact ⟨A, len, cap, g, h1, h2, h3, h4, fun x hx => wf_in8 (h5 x hx)⟩
end Go.Proofs.YthamkigdpgajaaaDoor
