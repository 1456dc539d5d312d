/- Slices of bars. -/
import Derived.Test.YthamkigdpgajaaaMm
namespace Go.Proofs.Ythamkigdpgajaaa
open Go.RowKit

def atB (l : List Mt.B) (i : Nat) : Mt.B := l[i]?.getD (0, 0, 0, 0)
theorem atB_eq {l : List Mt.B} {i : Nat} (h : i < l.length) : atB l i = l[i] := by unfold atB; rw [List.getElem?_eq_getElem h]; rfl
/-- At this address lie these bars (nothing is said where there are none). -/
def SlB (w : World) (A : Option Addr) (l : List Mt.B) : Prop :=
  0 < l.length → ∃ b off, A = some ⟨b, off, none⟩ ∧ b < w.heap.size ∧ ∀ k, k < l.length → w.cell? ⟨b, off + k * 4, none⟩ = some (.int .i64 (atB l k).1) ∧
    w.cell? ⟨b, off + k * 4 + 1, none⟩ = some (.int .i64 (atB l k).2.1) ∧ w.cell? ⟨b, off + k * 4 + 2, none⟩ = some (.int .i64 (atB l k).2.2.1) ∧ w.cell? ⟨b, off + k * 4 + 3, none⟩ = some (.int .i64 (atB l k).2.2.2)
theorem SlB.below {w w' : World} {A : Option Addr} {l : List Mt.B} (h : SlB w A l) (hb : Below w.heap.size w w') : SlB w' A l := fun h0 => by
  obtain ⟨b, off, e, hlt, hc⟩ := h h0
  refine ⟨b, off, e, Nat.lt_of_lt_of_le hlt hb.size, fun k hk => ?_⟩
  obtain ⟨c0, c1, c2, c3⟩ := hc k hk
  exact ⟨(hb.cell (p := ⟨b, off + k * 4, none⟩) hlt).trans c0, (hb.cell (p := ⟨b, off + k * 4 + 1, none⟩) hlt).trans c1, (hb.cell (p := ⟨b, off + k * 4 + 2, none⟩) hlt).trans c2, (hb.cell (p := ⟨b, off + k * 4 + 3, none⟩) hlt).trans c3⟩
theorem SlB.alloc {w : World} {A : Option Addr} {l : List Mt.B} (h : SlB w A l) (o : Obj) : SlB (w.alloc o) A l := h.below ((Below.refl _ _).alloc (Nat.le_refl _) _)
theorem SlB.nil (w : World) (A : Option Addr) : SlB w A [] := fun h => by simp at h
theorem baddr_off (b o j : Nat) : (⟨b, o, none⟩ : Addr).add j = ⟨b, o + j, none⟩ := by unfold Addr.add; split <;> simp_all
theorem SlB.take {w : World} {A : Option Addr} {l : List Mt.B} (h : SlB w A l) (j : Nat) : SlB w A (l.take j) := fun h0 => by
  rw [List.length_take] at h0
  obtain ⟨b, off, rfl, hb, hc⟩ := h (by omega)
  refine ⟨b, off, rfl, hb, fun i hi => ?_⟩
  rw [List.length_take] at hi
  have e : atB (l.take j) i = atB l i := by unfold atB; rw [List.getElem?_take, if_pos (by omega)]
  rw [e]
  exact hc i (by omega)
theorem SlB.drop {w : World} {A : Option Addr} {l : List Mt.B} (h : SlB w A l) (j : Nat) : SlB w (Option.map (fun x => x.add (j * 4)) A) (l.drop j) := fun h0 => by
  rw [List.length_drop] at h0
  obtain ⟨b, off, rfl, hb, hc⟩ := h (by omega)
  refine ⟨b, off + j * 4, by rw [Option.map_some, baddr_off], hb, fun i hi => ?_⟩
  rw [List.length_drop] at hi
  have e : atB (l.drop j) i = atB l (j + i) := by unfold atB; rw [List.getElem?_drop]
  rw [e, show off + j * 4 + i * 4 = off + (j + i) * 4 by omega]
  exact hc (j + i) (by omega)
end Go.Proofs.Ythamkigdpgajaaa
