/- Plain facts on the signs of a bar; nothing of the program is read here. -/
import Derived.Test.YtnjacgjcoikngaaDoorKm
namespace Go.Proofs.YtnjacgjcoikngaaDoor.Ky
open Pt

abbrev P3 := Int × Int × Int
def at3 (l : List P3) (i : Nat) : P3 := l[i]?.getD (0, 0, 0)
def atI (g : List Int) (i : Nat) : Int := g[i]?.getD 0
theorem at3_eq {l : List P3} {i : Nat} (h : i < l.length) : at3 l i = l[i] := by unfold at3; rw [List.getElem?_eq_getElem h]; rfl
theorem atI_eq {g : List Int} {i : Nat} (h : i < g.length) : atI g i = g[i] := by unfold atI; rw [List.getElem?_eq_getElem h]; rfl
theorem atI_left {g : List Int} {x : Int} {i : Nat} (h : i < g.length) : atI (g ++ [x]) i = atI g i := by unfold atI; rw [List.getElem?_append_left h]
theorem atI_last {g : List Int} {x : Int} {i : Nat} (h : g.length = i) : atI (g ++ [x]) i = x := by unfold atI; rw [List.getElem?_append_right (by omega)]; simp [h]
/-- What is in force for a step and an octave behind the first pitches. -/
def frcA (k s o : Int) (l : List P3) (g : List Int) : Nat → Int
  | 0 => alt k s
  | i + 1 => if (at3 l i).1 = s ∧ (at3 l i).2.2 = o ∧ atI g i ≠ 0 then atI g i - 10 else frcA k s o l g i
def frc (k : Int) (l : List P3) (g : List Int) (n : Nat) : Int := frcA k (at3 l n).1 (at3 l n).2.2 l g n
def sg (k : Int) (l : List P3) (g : List Int) (n : Nat) : Int := if frc k l g n = (at3 l n).2.1 then 0 else 10 + (at3 l n).2.1
/-- The signs of the first pitches. -/
def sgn (k : Int) (l : List P3) : Nat → List Int
  | 0 => []
  | n + 1 => sgn k l n ++ [sg k l (sgn k l n) n]
def rdA (k : Int) (l : List P3) (g : List Int) (i : Nat) : Int := if atI g i = 0 then frc k l g i else atI g i - 10
def rdP (k : Int) (l : List P3) (g : List Int) (i : Nat) : P3 := ((at3 l i).1, rdA k l g i, (at3 l i).2.2)
/-- What the first pitches are read as. -/
def rds (k : Int) (l : List P3) (g : List Int) (n : Nat) : List P3 := (List.range n).map (rdP k l g)
def pvs (l : List P3) : Bool := l.all fun p => pv p.1 p.2.1 p.2.2
def okAt (l : List P3) (g : List Int) (i : Nat) : Bool := pv (at3 l i).1 0 (at3 l i).2.2 && (decide (atI g i = 0) || (decide (6 ≤ atI g i) && decide (atI g i ≤ 14)))
def oks (l : List P3) (g : List Int) : Bool := (List.range l.length).all (okAt l g)
/-- Signs: the signs, error. -/
def signR (k : Int) (l : List P3) : List Int × Int :=
  if 1000 < l.length then ([], 2) else if (pvs l && kv k) = true then (sgn k l l.length, 0) else ([], 1)
/-- Read: the pitches, error. -/
def readR (k : Int) (l : List P3) (g : List Int) : List P3 × Int :=
  if 1000 < l.length then ([], 2) else if kv k = true ∧ g.length = l.length ∧ oks l g = true then (rds k l g l.length, 0) else ([], 1)

theorem sgn_length (k : Int) (l : List P3) : ∀ n, (sgn k l n).length = n
  | 0 => rfl
  | n + 1 => by simp [sgn, sgn_length k l n]
theorem sgn_at (k : Int) (l : List P3) : ∀ n i, i < n → atI (sgn k l n) i = sg k l (sgn k l i) i
  | 0, i, h => by omega
  | n + 1, i, h => by
    have hl := sgn_length k l n
    by_cases e : i = n
    · subst e
      exact atI_last hl
    · exact (atI_left (by omega)).trans (sgn_at k l n i (by omega))
theorem frcA_congr {k s o : Int} {l : List P3} {g g' : List Int} : ∀ {n : Nat}, (∀ j, j < n → atI g j = atI g' j) → frcA k s o l g n = frcA k s o l g' n
  | 0, _ => rfl
  | n + 1, h => by
    unfold frcA
    rw [h n (by omega), frcA_congr (n := n) fun j hj => h j (by omega)]
theorem frc_congr {k : Int} {l : List P3} {g g' : List Int} {n : Nat} (h : ∀ j, j < n → atI g j = atI g' j) : frc k l g n = frc k l g' n := frcA_congr h
theorem pvs_at {l : List P3} (h : pvs l = true) {i : Nat} (hi : i < l.length) : pv (at3 l i).1 (at3 l i).2.1 (at3 l i).2.2 = true := by
  rw [at3_eq hi]
  exact List.all_eq_true.1 h _ (List.getElem_mem hi)
theorem sg_in {k : Int} {l : List P3} {g : List Int} {n : Nat} (h : pv (at3 l n).1 (at3 l n).2.1 (at3 l n).2.2 = true) : sg k l g n = 0 ∨ (6 ≤ sg k l g n ∧ sg k l g n ≤ 14) := by
  have := pv_iff.1 h
  unfold sg
  split
  · exact .inl rfl
  · exact .inr (by omega)
theorem signR_ok {k : Int} {l : List P3} {g : List Int} (h : signR k l = (g, 0)) : l.length ≤ 1000 ∧ pvs l = true ∧ kv k = true ∧ g = sgn k l l.length := by
  unfold signR at h
  split at h
  · simp at h
  · split at h
    · rename_i h1 h2
      simp only [Bool.and_eq_true] at h2
      simp only [Prod.mk.injEq] at h
      exact ⟨by omega, h2.1, h2.2, h.1.symm⟩
    · simp at h
theorem rds_same {k : Int} {l : List P3} {g : List Int} (h : ∀ i, i < l.length → rdA k l g i = (at3 l i).2.1) : rds k l g l.length = l := by
  apply List.ext_getElem
  · simp [rds]
  · intro i h1 h2
    have e := h i h2
    have e2 : (rds k l g l.length)[i] = rdP k l g i := by simp [rds]
    rw [e2]
    unfold rdP
    rw [e, at3_eq h2]
theorem oks_sgn {k : Int} {l : List P3} {g : List Int} (hp : pvs l = true) (h : ∀ i, i < l.length → atI g i = 0 ∨ atI g i = sg k l (sgn k l i) i) : oks l g = true := by
  unfold oks
  rw [List.all_eq_true]
  intro i hi
  have hi' := List.mem_range.1 hi
  have hv := pvs_at hp hi'
  have h0 : pv (at3 l i).1 0 (at3 l i).2.2 = true := by have := pv_iff.1 hv; exact pv_iff.2 (by omega)
  unfold okAt
  rw [h0]
  rcases h i hi' with e | e
  · rw [e]; simp
  · rw [e]
    rcases sg_in (k := k) (g := sgn k l i) hv with e2 | ⟨e2, e3⟩
    · rw [e2]; simp
    · simp [e2, e3]
/-- What is written with its signs is read as it was. -/
theorem sign_read {k : Int} {l : List P3} {g : List Int} (h : signR k l = (g, 0)) : readR k l g = (l, 0) := by
  obtain ⟨h1, h2, h3, rfl⟩ := signR_ok h
  have ht := sgn_at k l l.length
  unfold readR
  rw [if_neg (by omega), if_pos ⟨h3, sgn_length k l l.length, oks_sgn (k := k) h2 fun i hi => .inr (ht i hi)⟩, rds_same fun i hi => ?_]
  have hv := pv_iff.1 (pvs_at h2 hi)
  have hf : frc k l (sgn k l l.length) i = frc k l (sgn k l i) i := frc_congr fun j hj => by rw [ht j (by omega), sgn_at k l i j hj]
  have hs : sg k l (sgn k l i) i = if frc k l (sgn k l i) i = (at3 l i).2.1 then 0 else 10 + (at3 l i).2.1 := rfl
  unfold rdA
  rw [ht i hi, hf, hs]
  by_cases e : frc k l (sgn k l i) i = (at3 l i).2.1
  · rw [if_pos e, if_pos rfl, e]
  · rw [if_neg e, if_neg (by omega)]; omega
/-- If a sign is left out, its pitch is read as another one. -/
theorem sign_less {k : Int} {l : List P3} {g : List Int} (h : signR k l = (g, 0)) {n : Nat} (hn : n < l.length) :
    ∃ m, readR k l (g.set n 0) = (m, 0) ∧ m.length = l.length ∧ (at3 m n = at3 l n ↔ atI g n = 0) := by
  obtain ⟨h1, h2, h3, rfl⟩ := signR_ok h
  have ht := sgn_at k l l.length
  have hl := sgn_length k l l.length
  have hs : ∀ i, i < l.length → atI ((sgn k l l.length).set n 0) i = if i = n then 0 else sg k l (sgn k l i) i := fun i hi => by
    rw [atI_eq (by simp; omega), List.getElem_set]
    split
    · rename_i e; rw [if_pos e.symm]
    · rename_i e
      rw [if_neg (fun e2 => e e2.symm), ← atI_eq (by omega)]
      exact ht i hi
  refine ⟨rds k l ((sgn k l l.length).set n 0) l.length, ?_, by simp [rds], ?_⟩
  · unfold readR
    rw [if_neg (by omega), if_pos ⟨h3, by simp [hl], oks_sgn (k := k) h2 fun i hi => by rw [hs i hi]; split <;> simp⟩]
  · have hv := pv_iff.1 (pvs_at h2 hn)
    have hf : frc k l ((sgn k l l.length).set n 0) n = frc k l (sgn k l n) n := frc_congr fun j hj => by rw [hs j (by omega), if_neg (by omega), sgn_at k l n j hj]
    have e1 : at3 (rds k l ((sgn k l l.length).set n 0) l.length) n = ((at3 l n).1, frc k l (sgn k l n) n, (at3 l n).2.2) := by
      have hlen : n < (rds k l ((sgn k l l.length).set n 0) l.length).length := by simp [rds]; exact hn
      rw [at3_eq hlen]
      have e2 : (rds k l ((sgn k l l.length).set n 0) l.length)[n] = rdP k l ((sgn k l l.length).set n 0) n := by simp [rds]
      rw [e2]
      unfold rdP rdA
      rw [hs n hn, if_pos rfl, if_pos rfl, hf]
    rw [e1, ht n hn]
    unfold sg
    constructor
    · intro e
      have : frc k l (sgn k l n) n = (at3 l n).2.1 := congrArg (fun p : P3 => p.2.1) e
      rw [if_pos this]
    · intro e
      split at e
      · rename_i e2; rw [e2]
      · omega
end Go.Proofs.YtnjacgjcoikngaaDoor.Ky
