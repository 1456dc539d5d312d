/- Plain facts on keys; nothing of the program is read here. -/
import Derived.Test.YtnjacgjcoikngaaDoorPm
namespace Go.Proofs.YtnjacgjcoikngaaDoor.Ky
open Pt

def kv (k : Int) : Bool := decide (-7 ≤ k) && decide (k ≤ 7)
theorem kv_iff {k : Int} : kv k = true ↔ -7 ≤ k ∧ k ≤ 7 := by unfold kv; simp
theorem kv_no {k : Int} (h : kv k = false) : k < -7 ∨ 7 < k := by
  have h' : ¬ kv k = true := by simp [h]
  rw [kv_iff] at h'; omega
/-- Where a step is in the order of sharps. -/
def plc (s : Int) : Int := if s = 0 then 1 else if s = 1 then 3 else if s = 2 then 5 else if s = 3 then 0 else if s = 4 then 2 else if s = 5 then 4 else if s = 6 then 6 else 0
theorem plc_in (s : Int) : 0 ≤ plc s ∧ plc s ≤ 6 := by unfold plc; (repeat' split) <;> omega
def alt (k s : Int) : Int := if plc s < k then 1 else if 6 - plc s < -k then -1 else 0
theorem alt_in (k s : Int) : -1 ≤ alt k s ∧ alt k s ≤ 1 := by unfold alt; (repeat' split) <;> omega
/-- An alteration is the one that brings a step into the key's window of fifths. -/
theorem alt_iff {k s a : Int} (hk : kv k = true) : alt k s = a ↔ k ≤ plc s + 7 * a ∧ plc s + 7 * a ≤ k + 6 := by
  obtain ⟨h1, h2⟩ := kv_iff.1 hk
  have := plc_in s
  unfold alt
  (repeat' split) <;> omega
/-- The fifths of a step. -/
theorem plc_nat {s : Int} (h0 : 0 ≤ s) (h6 : s ≤ 6) : 7 * natI s - 12 * s = plc s - 1 := by
  have : s = 0 ∨ s = 1 ∨ s = 2 ∨ s = 3 ∨ s = 4 ∨ s = 5 ∨ s = 6 := by omega
  rcases this with rfl | rfl | rfl | rfl | rfl | rfl | rfl <;> decide

def altR (k s : Int) : Int × Int := if (kv k && (decide (0 ≤ s) && decide (s ≤ 6))) = true then (alt k s, 0) else (0, 1)
def fifR (i t : Int) : Int × Int := if iv i t = true then (7 * t - 12 * i, 0) else (0, 1)
/-- How many times 12 are taken away. -/
def cnt (v : Int) : Int := if 7 < v then (v + 4) / 12 else if v < -7 then -((4 - v) / 12) else 0
def mK (k i t : Int) : Int := k + (7 * t - 12 * i) - 12 * cnt (k + (7 * t - 12 * i))
def mI (k i t : Int) : Int := i + cnt (k + (7 * t - 12 * i))
/-- Move: key, steps, semitones, error. -/
def moveR (k i t : Int) : Int × Int × Int × Int := if (iv i t && kv k) = true then (mK k i t, mI k i t, t, 0) else (0, 0, 0, 1)
theorem cnt_in (v : Int) : -7 ≤ v - 12 * cnt v ∧ v - 12 * cnt v ≤ 7 := by unfold cnt; (repeat' split) <;> omega
theorem cnt_zero {v : Int} (h0 : -7 ≤ v) (h1 : v ≤ 7) : cnt v = 0 := by unfold cnt; rw [if_neg (by omega), if_neg (by omega)]
theorem cnt_of {v d : Int} (h1 : -7 ≤ v - 12 * d) (h2 : v - 12 * d ≤ 7) (h3 : 0 < d → -4 ≤ v - 12 * d) (h4 : d < 0 → v - 12 * d ≤ 4) : cnt v = d := by
  unfold cnt
  (repeat' split) <;> omega
theorem move_ok {k i t K I T : Int} (h : moveR k i t = (K, I, T, 0)) :
    iv i t = true ∧ kv k = true ∧ kv K = true ∧ iv I T = true ∧ T = t ∧ 7 * T - 12 * I = K - k := by
  unfold moveR at h
  split at h
  · rename_i h1
    simp only [Bool.and_eq_true] at h1
    simp only [Prod.mk.injEq] at h
    obtain ⟨rfl, rfl, rfl, _⟩ := h
    obtain ⟨a1, a2, a3, a4⟩ := iv_iff.1 h1.1
    obtain ⟨b1, b2⟩ := kv_iff.1 h1.2
    have := cnt_in (k + (7 * t - 12 * i))
    refine ⟨h1.1, h1.2, kv_iff.2 (by unfold mK; omega), iv_iff.2 ⟨?_, ?_, a3, a4⟩, rfl, by unfold mK mI; omega⟩
    · unfold mI cnt; (repeat' split) <;> omega
    · unfold mI cnt; (repeat' split) <;> omega
  · simp at h
theorem move_all {k i t : Int} (h1 : iv i t = true) (h2 : kv k = true) : ∃ K I, moveR k i t = (K, I, t, 0) := by
  unfold moveR; rw [h1, h2]; exact ⟨_, _, rfl⟩
theorem move_back {k i t K I T : Int} (h : moveR k i t = (K, I, T, 0)) : moveR K (-I) (-T) = (k, -I, -T, 0) := by
  obtain ⟨h1, h2, h3, h4, h5, h6⟩ := move_ok h
  have e : K + (7 * -T - 12 * -I) = k := by omega
  obtain ⟨b1, b2⟩ := kv_iff.1 h2
  unfold moveR mK mI
  rw [iv_neg, h4, h3, e, cnt_zero b1 b2]
  simp
theorem fif_of {i t : Int} (h : iv i t = true) : fifR i t = (7 * t - 12 * i, 0) := by unfold fifR; rw [if_pos h]
/-- A pitch that is altered as the key says, moved by the exact interval, is altered as the moved key says. -/
theorem scale {k i t K I T s o p b q : Int} (h : moveR k i t = (K, I, T, 0)) (ha : addR s (alt k s) o I T = (p, b, q, 0)) : alt K p = b := by
  obtain ⟨h1, h2, h3, h4, h5, h6⟩ := move_ok h
  obtain ⟨g1, g2, g3, g4, g5⟩ := add_ok ha
  obtain ⟨a1, a2, a3, a4, a5, a6⟩ := pv_iff.1 g1
  obtain ⟨b1, b2, b3, b4, b5, b6⟩ := pv_iff.1 g3
  have f := (alt_iff (s := s) (a := alt k s) h2).1 rfl
  have n1 := plc_nat a1 a2
  have n2 := plc_nat b1 b2
  unfold place at g4
  unfold snd at g5
  rw [alt_iff h3]
  omega
end Go.Proofs.YtnjacgjcoikngaaDoor.Ky
