/- Which errors there are. -/
import Derived.Test.YtgehnciegolkhaaDoorFh
namespace Go.Proofs.YtgehnciegolkhaaDoor.Pt
theorem add_cases {s a o i t X Y Z E : Int} (h : addR s a o i t = (X, Y, Z, E)) : E = 0 ∨ (X = 0 ∧ Y = 0 ∧ Z = 0) ∧ (E = 1 ∨ E = 3) := by
  unfold addR at h
  split at h
  · split at h <;> simp only [Prod.mk.injEq] at h <;> omega
  · simp only [Prod.mk.injEq] at h; omega
theorem bet_cases {s a o p b q I T E : Int} (h : betR s a o p b q = (I, T, E)) : E = 0 ∨ (I = 0 ∧ T = 0) ∧ (E = 1 ∨ E = 3) := by
  unfold betR at h
  split at h
  · split at h <;> simp only [Prod.mk.injEq] at h <;> omega
  · simp only [Prod.mk.injEq] at h; omega
theorem join_cases {i t j u I T E : Int} (h : joinR i t j u = (I, T, E)) : E = 0 ∨ (I = 0 ∧ T = 0) ∧ (E = 1 ∨ E = 3) := by
  unfold joinR at h
  split at h
  · split at h <;> simp only [Prod.mk.injEq] at h <;> omega
  · simp only [Prod.mk.injEq] at h; omega
theorem num_cases {s a o V E : Int} (h : numR s a o = (V, E)) : (E = 0 ∧ pv s a o = true ∧ V = snd s a o) ∨ (E = 1 ∧ pv s a o = false ∧ V = 0) := by
  unfold numR at h
  split at h
  · rename_i h1; simp only [Prod.mk.injEq] at h; exact .inl ⟨h.2.symm, h1, h.1.symm⟩
  · rename_i h1; simp only [Prod.mk.injEq] at h; exact .inr ⟨h.2.symm, by simpa using h1, h.1.symm⟩
end Go.Proofs.YtgehnciegolkhaaDoor.Pt
