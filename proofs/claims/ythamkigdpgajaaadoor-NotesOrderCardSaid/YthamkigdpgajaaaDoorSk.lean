import Derived.Test.YthamkigdpgajaaaDoorGA
/- Slices of integers of any kind. -/
namespace Go.Proofs.YthamkigdpgajaaaDoor
open Go.RowKit

def atI (g : List Int) (i : Nat) : Int := g[i]?.getD 0
theorem atI_eq {g : List Int} {i : Nat} (h : i < g.length) : atI g i = g[i] := by unfold atI; rw [List.getElem?_eq_getElem h]; rfl
theorem addr_off (b o j : Nat) : (⟨b, o, none⟩ : Addr).add j = ⟨b, o + j, none⟩ := by unfold Addr.add; split <;> simp_all
/-- At this address lie these integers of this kind (nothing is said where there are none). -/
def SlK (k : IntKind) (w : World) (A : Option Addr) (g : List Int) : Prop :=
  0 < g.length → ∃ b off, A = some ⟨b, off, none⟩ ∧ b < w.heap.size ∧ ∀ i, i < g.length → w.cell? ⟨b, off + i, none⟩ = some (.int k (atI g i))
theorem SlK.below {k : IntKind} {w w' : World} {A : Option Addr} {g : List Int} (h : SlK k w A g) (hb : Below w.heap.size w w') : SlK k w' A g := fun h0 => by
  obtain ⟨b, off, e, hlt, hc⟩ := h h0
  exact ⟨b, off, e, Nat.lt_of_lt_of_le hlt hb.size, fun i hi => (hb.cell (p := ⟨b, off + i, none⟩) hlt).trans (hc i hi)⟩
theorem SlK.alloc {k : IntKind} {w : World} {A : Option Addr} {g : List Int} (h : SlK k w A g) (o : Obj) : SlK k (w.alloc o) A g := h.below ((Below.refl _ _).alloc (Nat.le_refl _) _)
theorem SlK.nil (k : IntKind) (w : World) (A : Option Addr) : SlK k w A [] := fun h => by simp at h
end Go.Proofs.YthamkigdpgajaaaDoor
