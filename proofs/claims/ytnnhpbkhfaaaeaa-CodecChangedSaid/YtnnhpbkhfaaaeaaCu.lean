/- Plain facts that the laws on frames ask for. -/
import Derived.Test.YtnnhpbkhfaaaeaaSm
namespace Go.Proofs.Ytnnhpbkhfaaaeaa
open Go.RowKit

namespace Cd
theorem fr_oks {b : List Nat} (hb : by8 b) : oks (fr b).1 := by
  have : ∀ n (b : List Nat), by8 b → b.length ≤ n → oks (fr b).1 := fun n => by
    induction n with
    | zero =>
      intro b _ hb
      have : b = [] := List.eq_nil_of_length_eq_zero (by omega)
      subst this
      rw [fr_nil]
      exact fun g hg => by simp at hg
    | succ n ih =>
      intro b h8 hb
      cases h : whole b with
      | none => rw [fr_none h]; exact fun g hg => by simp at hg
      | some p =>
        obtain ⟨l, k⟩ := p
        have h1 := whole_pos h
        have h2 := ih (b.drop k) (h8.drop k) (by rw [List.length_drop]; omega)
        have h3 := (whole_some h h8).1
        rw [fr_some h]
        intro g hg
        rcases List.mem_cons.1 hg with rfl | hg
        · exact h3
        · exact h2 g hg
  exact this _ b hb (Nat.le_refl _)
theorem fr_few (b : List Nat) : (fr b).1.length ≤ b.length := by
  have : ∀ n (b : List Nat), b.length ≤ n → (fr b).1.length ≤ b.length := fun n => by
    induction n with
    | zero =>
      intro b hb
      have : b = [] := List.eq_nil_of_length_eq_zero (by omega)
      subst this
      rw [fr_nil]
      exact Nat.le_refl _
    | succ n ih =>
      intro b hb
      cases h : whole b with
      | none => rw [fr_none h]; exact Nat.zero_le _
      | some p =>
        obtain ⟨l, k⟩ := p
        have h1 := whole_pos h
        have h2 := ih (b.drop k) (by rw [List.length_drop]; omega)
        rw [fr_some h]
        rw [List.length_drop] at h2
        simp only [List.length_cons]
        omega
  exact this _ b (Nat.le_refl _)
theorem smallB_true {l : List (List Int)} (h : smallB l = true) : l.length ≤ 10 ∧ ∀ g ∈ l, g.length ≤ 30 := of_decide_eq_true h
theorem small_oks {l : List (List Int)} (h : ∀ g ∈ l, g.length ≤ 30) (hw : ∀ g ∈ l, wds g) : oks l := fun g hg => ⟨by have := h g hg; omega, hw g hg⟩
theorem frs_mono {l : List (List Int)} {u v : Nat} (h : u ≤ v) : (frs (l.take u)).length ≤ (frs (l.take v)).length := by
  have : l.take v = l.take u ++ (l.take v).drop u := by
    conv => lhs; rw [← List.take_append_drop u (l.take v)]
    rw [List.take_take, Nat.min_eq_left h]
  rw [this, frs_app, List.length_append]
  omega
end Cd

theorem SlL.take {w : World} {A : Option Addr} {l : List (List Int)} (h : SlL w A l) (j : Nat) : SlL w A (l.take j) := fun h0 => by
  rw [List.length_take] at h0
  obtain ⟨b, off, rfl, hb, hc⟩ := h (by omega)
  refine ⟨b, off, rfl, hb, fun i hi => ?_⟩
  rw [List.length_take] at hi
  have e : atL (l.take j) i = atL l i := by unfold atL; rw [List.getElem?_take, if_pos (by omega)]
  rw [e]
  exact hc i (by omega)
theorem SlL.drop {w : World} {A : Option Addr} {l : List (List Int)} (h : SlL w A l) (j : Nat) : SlL w (Option.map (fun x => x.add j) A) (l.drop j) := fun h0 => by
  rw [List.length_drop] at h0
  obtain ⟨b, off, rfl, hb, hc⟩ := h (by omega)
  refine ⟨b, off + j, by rw [Option.map_some, addr_off], hb, fun i hi => ?_⟩
  rw [List.length_drop] at hi
  have e : atL (l.drop j) i = atL l (j + i) := by unfold atL; rw [List.getElem?_drop]
  rw [e, Nat.add_assoc]
  exact hc (j + i) (by omega)
end Go.Proofs.Ytnnhpbkhfaaaeaa
