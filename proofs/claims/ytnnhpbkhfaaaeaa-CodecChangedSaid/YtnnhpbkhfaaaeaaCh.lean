/- Plain facts on frames, one behind the other; nothing of the program is read here. -/
import Derived.Test.YtnnhpbkhfaaaeaaCg
namespace Go.Proofs.Ytnnhpbkhfaaaeaa.Cd
open Go.Proofs.Ytnnhpbkhfaaaeaa.Dg

/-- The lists of all whole frames with which bytes begin, and how many bytes these have. -/
def fr (b : List Nat) : List (List Int) × Nat :=
  match _h : whole b with
  | none => ([], 0)
  | some (l, k) => (l :: (fr (b.drop k)).1, k + (fr (b.drop k)).2)
termination_by b.length
decreasing_by all_goals
  have := whole_pos _h
  rw [List.length_drop]
  omega
theorem fr_none {b : List Nat} (h : whole b = none) : fr b = ([], 0) := by
  rw [fr]
  split
  · rfl
  · rename_i h2; rw [h] at h2; cases h2
theorem fr_some {b : List Nat} {l : List Int} {k : Nat} (h : whole b = some (l, k)) : fr b = (l :: (fr (b.drop k)).1, k + (fr (b.drop k)).2) := by
  rw [fr]
  split
  · rename_i h2; rw [h] at h2; cases h2
  · rename_i h2; rw [h] at h2; cases h2; rfl
def oks (l : List (List Int)) : Prop := ∀ g ∈ l, ok g
def frs (l : List (List Int)) : List Nat := l.flatMap frame
theorem frs_cons (g : List Int) (l : List (List Int)) : frs (g :: l) = frame g ++ frs l := by unfold frs; rw [List.flatMap_cons]
theorem frs_app (a b : List (List Int)) : frs (a ++ b) = frs a ++ frs b := List.flatMap_append ..
theorem frs_by8 {l : List (List Int)} (h : oks l) : by8 (frs l) := fun x hx => by
  obtain ⟨g, hg, h1⟩ := List.mem_flatMap.1 hx
  exact frame_by8 (h g hg) x h1
theorem fr_frame {l : List Int} (h : ok l) (rest : List Nat) : fr (frame l ++ rest) = (l :: (fr rest).1, (frame l).length + (fr rest).2) := by
  rw [fr_some (whole_frame h rest), List.drop_left]
theorem fr_frs {l : List (List Int)} (h : oks l) (rest : List Nat) : fr (frs l ++ rest) = (l ++ (fr rest).1, (frs l).length + (fr rest).2) := by
  induction l with
  | nil => simp [frs]
  | cons g r ih =>
    rw [frs_cons, List.append_assoc, fr_frame (h g (by simp)), ih fun x hx => h x (by simp [hx])]
    simp
    omega
theorem fr_nil : fr [] = ([], 0) := fr_none (by unfold whole; rfl)
theorem fr_all {l : List (List Int)} (h : oks l) : fr (frs l) = (l, (frs l).length) := by
  have := fr_frs h []
  rw [List.append_nil, fr_nil] at this
  simpa using this
theorem fr_size (b : List Nat) : (fr b).2 ≤ b.length := by
  have : ∀ n (b : List Nat), b.length ≤ n → (fr b).2 ≤ b.length := fun n => by
    induction n with
    | zero =>
      intro b hb
      have : b = [] := List.eq_nil_of_length_eq_zero (by omega)
      subst this
      rw [fr_nil]
      exact Nat.le_refl _
    | succ n ih =>
      intro b hb
      cases h : whole b with
      | none => rw [fr_none h]; exact Nat.zero_le _
      | some p =>
        obtain ⟨l, k⟩ := p
        have h1 := whole_pos h
        have h2 := ih (b.drop k) (by rw [List.length_drop]; omega)
        rw [fr_some h]
        rw [List.length_drop] at h2
        show k + _ ≤ _
        omega
  exact this _ b (Nat.le_refl _)
/-- Frames that are cut at any byte: those that are whole are read. -/
theorem fr_torn {l : List (List Int)} (h : oks l) : ∀ at_ : Nat, at_ ≤ (frs l).length → ∃ v, v ≤ l.length ∧ (frs (l.take v)).length ≤ at_ ∧ (∀ u, u ≤ l.length → (frs (l.take u)).length ≤ at_ → u ≤ v) ∧ fr ((frs l).take at_) = (l.take v, (frs (l.take v)).length) := by
  induction l with
  | nil =>
    intro a ha
    refine ⟨0, Nat.le_refl _, by simp [frs], fun u hu _ => hu, ?_⟩
    simp [frs, fr_nil]
  | cons g r ih =>
    intro a ha
    have hg := h g (by simp)
    have hr : oks r := fun x hx => h x (by simp [hx])
    rw [frs_cons, List.length_append] at ha
    by_cases hc : a < (frame g).length
    · refine ⟨0, Nat.zero_le _, by simp [frs], fun u hu he => ?_, ?_⟩
      · cases u with
        | zero => exact Nat.le_refl _
        | succ u =>
          rw [List.take_succ_cons, frs_cons, List.length_append] at he
          omega
      · rw [frs_cons, List.take_append_of_le_length (by omega), fr_none (whole_torn hg hc)]
        simp [frs]
    · obtain ⟨v, h1, h2, h3, h4⟩ := ih hr (a - (frame g).length) (by omega)
      refine ⟨v + 1, by rw [List.length_cons]; omega, by rw [List.take_succ_cons, frs_cons, List.length_append]; omega, fun u hu he => ?_, ?_⟩
      · cases u with
        | zero => omega
        | succ u =>
          rw [List.take_succ_cons, frs_cons, List.length_append] at he
          rw [List.length_cons] at hu
          have := h3 u (by omega) (by omega)
          omega
      · rw [frs_cons, List.take_append, List.take_of_length_le (by omega), fr_frame hg, h4, List.take_succ_cons, frs_cons, List.length_append]
/-- The last frame with one byte turned, but none of its first three: all before it are read, and it is not. -/
theorem fr_changed {l : List (List Int)} (h : oks l) {g : List Int} (hg : ok g) {p y : Nat} (hp : p < (frame g).length) (h3 : 3 ≤ p) (hy : y < 256) (hne : y ≠ atN (frame g) p) : fr (frs l ++ (frame g).set p y) = (l, (frs l).length) := by
  rw [fr_frs h, fr_none (whole_set hg hp h3 hy hne)]
  simp
end Go.Proofs.Ytnnhpbkhfaaaeaa.Cd
