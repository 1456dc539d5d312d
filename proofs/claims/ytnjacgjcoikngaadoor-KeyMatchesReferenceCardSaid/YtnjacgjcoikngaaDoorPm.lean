/- Plain facts on pitches and intervals; nothing of the program is read here. -/
import Derived.Test.YtnjacgjcoikngaaDoorRows
namespace Go.Proofs.YtnjacgjcoikngaaDoor.Pt

def natI (s : Int) : Int := if 2 < s then 2 * s - 1 else 2 * s
def place (s o : Int) : Int := 7 * o + s
def snd (s a o : Int) : Int := 12 * o + natI s + a
def pv (s a o : Int) : Bool := decide (0 ≤ s) && decide (s ≤ 6) && decide (-4 ≤ a) && decide (a ≤ 4) && decide (-8 ≤ o) && decide (o ≤ 20)
def iv (s t : Int) : Bool := decide (-70 ≤ s) && decide (s ≤ 70) && decide (-120 ≤ t) && decide (t ≤ 120)
theorem pv_iff {s a o : Int} : pv s a o = true ↔ 0 ≤ s ∧ s ≤ 6 ∧ -4 ≤ a ∧ a ≤ 4 ∧ -8 ≤ o ∧ o ≤ 20 := by unfold pv; simp [and_assoc]
theorem iv_iff {s t : Int} : iv s t = true ↔ -70 ≤ s ∧ s ≤ 70 ∧ -120 ≤ t ∧ t ≤ 120 := by unfold iv; simp [and_assoc]
theorem pv_no {s a o : Int} (h : pv s a o = false) : s < 0 ∨ 6 < s ∨ a < -4 ∨ 4 < a ∨ o < -8 ∨ 20 < o := by
  have h' : ¬ pv s a o = true := by simp [h]
  rw [pv_iff] at h'; omega
theorem iv_no {s t : Int} (h : iv s t = false) : s < -70 ∨ 70 < s ∨ t < -120 ∨ 120 < t := by
  have h' : ¬ iv s t = true := by simp [h]
  rw [iv_iff] at h'; omega
theorem natI_in {s : Int} (h0 : 0 ≤ s) (h6 : s ≤ 6) : 0 ≤ natI s ∧ natI s ≤ 11 := by unfold natI; split <;> omega

/-- Where a pitch is moved to, whether valid or not. -/
def mS (s o i : Int) : Int := (place s o + i) % 7
def mO (s o i : Int) : Int := (place s o + i) / 7
def mA (s a o i t : Int) : Int := snd s a o + t - snd (mS s o i) 0 (mO s o i)
/-- Add: step, alter, octave, error. -/
def addR (s a o i t : Int) : Int × Int × Int × Int :=
  if (pv s a o && iv i t) = true then
    if pv (mS s o i) (mA s a o i t) (mO s o i) = true then (mS s o i, mA s a o i t, mO s o i, 0) else (0, 0, 0, 3)
  else (0, 0, 0, 1)
def betR (s a o p b q : Int) : Int × Int × Int :=
  if (pv s a o && pv p b q) = true then
    if iv (place p q - place s o) (snd p b q - snd s a o) = true then (place p q - place s o, snd p b q - snd s a o, 0) else (0, 0, 3)
  else (0, 0, 1)
def joinR (i t j u : Int) : Int × Int × Int :=
  if (iv i t && iv j u) = true then
    if iv (i + j) (t + u) = true then (i + j, t + u, 0) else (0, 0, 3)
  else (0, 0, 1)
def backR (i t : Int) : Int × Int × Int := if iv i t = true then (-i, -t, 0) else (0, 0, 1)
def numR (s a o : Int) : Int × Int := if pv s a o = true then (snd s a o, 0) else (0, 1)

theorem iv_neg {i t : Int} : iv (-i) (-t) = iv i t := by
  rw [Bool.eq_iff_iff, iv_iff, iv_iff]; omega
theorem add_ok {s a o i t p b q : Int} (h : addR s a o i t = (p, b, q, 0)) :
    pv s a o = true ∧ iv i t = true ∧ pv p b q = true ∧ place p q = place s o + i ∧ snd p b q = snd s a o + t := by
  unfold addR at h
  split at h
  · rename_i h1
    split at h
    · rename_i h2
      simp only [Prod.mk.injEq] at h
      obtain ⟨rfl, rfl, rfl, _⟩ := h
      simp only [Bool.and_eq_true] at h1
      refine ⟨h1.1, h1.2, h2, ?_, ?_⟩
      · unfold mS mO; show 7 * _ + _ = _; omega
      · unfold mA snd; omega
    · simp at h
  · simp at h
/-- A pitch is known by its place and its number. -/
theorem same {s a o p b q : Int} (h1 : pv s a o = true) (h2 : pv p b q = true) (hp : place s o = place p q) (hn : snd s a o = snd p b q) : s = p ∧ a = b ∧ o = q := by
  rw [pv_iff] at h1 h2
  unfold place at hp
  have e1 : s = p := by omega
  have e2 : o = q := by omega
  subst e1 e2
  unfold snd at hn
  exact ⟨rfl, by omega, rfl⟩
theorem add_of {s a o i t p b q : Int} (h1 : pv s a o = true) (h2 : iv i t = true) (h3 : pv p b q = true) (hp : place p q = place s o + i) (hn : snd p b q = snd s a o + t) :
    addR s a o i t = (p, b, q, 0) := by
  have l3 := pv_iff.1 h3
  have e1 : mS s o i = p := by unfold mS; rw [← hp]; unfold place; omega
  have e2 : mO s o i = q := by unfold mO; rw [← hp]; unfold place; omega
  have e3 : mA s a o i t = b := by unfold mA; rw [e1, e2, ← hn]; unfold snd; omega
  unfold addR
  rw [h1, h2, e1, e2, e3, h3]
  simp
theorem add_err {s a o i t p b q E : Int} (h : addR s a o i t = (p, b, q, E)) (hE : E ≠ 0) : p = 0 ∧ b = 0 ∧ q = 0 := by
  unfold addR at h
  split at h
  · split at h
    · simp only [Prod.mk.injEq] at h; omega
    · simp only [Prod.mk.injEq] at h; omega
  · simp only [Prod.mk.injEq] at h; omega
theorem bet_ok {s a o p b q i t : Int} (h : betR s a o p b q = (i, t, 0)) : pv s a o = true ∧ pv p b q = true ∧ iv i t = true ∧ i = place p q - place s o ∧ t = snd p b q - snd s a o := by
  unfold betR at h
  split at h
  · rename_i h1
    split at h
    · rename_i h2
      simp only [Prod.mk.injEq] at h
      obtain ⟨rfl, rfl, _⟩ := h
      simp only [Bool.and_eq_true] at h1
      exact ⟨h1.1, h1.2, h2, rfl, rfl⟩
    · simp at h
  · simp at h
theorem join_comm (i t j u : Int) : joinR i t j u = joinR j u i t := by
  unfold joinR
  rw [Bool.and_comm (iv i t), Int.add_comm i j, Int.add_comm t u]
theorem join_ok {i t j u m n : Int} (h : joinR i t j u = (m, n, 0)) : iv i t = true ∧ iv j u = true ∧ iv m n = true ∧ m = i + j ∧ n = t + u := by
  unfold joinR at h
  split at h
  · rename_i h1
    split at h
    · rename_i h2
      simp only [Prod.mk.injEq] at h
      obtain ⟨rfl, rfl, _⟩ := h
      simp only [Bool.and_eq_true] at h1
      exact ⟨h1.1, h1.2, h2, rfl, rfl⟩
    · simp at h
  · simp at h
theorem back_of {i t : Int} (h : iv i t = true) : backR i t = (-i, -t, 0) := by unfold backR; rw [if_pos h]
/-- There and back. -/
theorem add_back {s a o i t p b q : Int} (h : addR s a o i t = (p, b, q, 0)) : addR p b q (-i) (-t) = (s, a, o, 0) := by
  obtain ⟨h1, h2, h3, h4, h5⟩ := add_ok h
  exact add_of h3 (by rw [iv_neg]; exact h2) h1 (by omega) (by omega)
theorem add_between {s a o p b q i t : Int} (h : betR s a o p b q = (i, t, 0)) : addR s a o i t = (p, b, q, 0) := by
  obtain ⟨h1, h2, h3, h4, h5⟩ := bet_ok h
  exact add_of h1 h3 h2 (by omega) (by omega)
theorem between_add {s a o p b q i t : Int} (h : addR s a o i t = (p, b, q, 0)) : betR s a o p b q = (i, t, 0) := by
  obtain ⟨h1, h2, h3, h4, h5⟩ := add_ok h
  have e1 : place p q - place s o = i := by omega
  have e2 : snd p b q - snd s a o = t := by omega
  unfold betR
  rw [h1, h3, e1, e2, h2]
  simp
theorem add_join {s a o i t j u m n p b q x y z : Int} (hm : joinR i t j u = (m, n, 0)) (h1 : addR s a o i t = (p, b, q, 0)) (h2 : addR p b q j u = (x, y, z, 0)) : addR s a o m n = (x, y, z, 0) := by
  obtain ⟨_, _, g3, g4, g5⟩ := join_ok hm
  obtain ⟨a1, _, _, a4, a5⟩ := add_ok h1
  obtain ⟨_, _, b3, b4, b5⟩ := add_ok h2
  exact add_of a1 g3 b3 (by omega) (by omega)
end Go.Proofs.YtnjacgjcoikngaaDoor.Pt
