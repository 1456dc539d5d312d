import Derived.Test.YthamkigdpgajaaaDoorHm
/- What NotesPlay needs. -/
namespace Go.Proofs.YthamkigdpgajaaaDoor
open Go.RowKit

namespace No
theorem atS_cons (s : Sp) (r : List Sp) (i : Nat) : atS (s :: r) (i + 1) = atS r i := rfl
theorem ok_step : ∀ {l : List Sp}, ok l → ∀ i, i + 1 < l.length → (atS l i).2 < (atS l (i + 1)).1
  | [], _, i, h => by simp at h
  | [_], _, i, h => by simp at h
  | s :: r :: l, h, 0, _ => ok_later h r (by simp)
  | s :: r :: l, h, i + 1, hi => by
    rw [atS_cons, atS_cons]
    exact ok_step (ok_tail h) i (by simpa using hi)
/-- The length of the first i spans. -/
def psum (l : List Sp) (i : Nat) : Int := ((l.take i).map fun s => s.2 - s.1).sum
theorem psum_zero (l : List Sp) : psum l 0 = 0 := rfl
theorem psum_all (l : List Sp) : psum l l.length = (l.map fun s => s.2 - s.1).sum := by unfold psum; rw [List.take_length]
theorem psum_succ {l : List Sp} {i : Nat} (h : i < l.length) : psum l (i + 1) = psum l i + (atS l i).2 - (atS l i).1 := by
  unfold psum atS
  rw [List.take_add_one, List.getElem?_eq_getElem h]
  simp only [Option.toList, List.map_append, List.sum_append, List.map_cons, List.map_nil, List.sum_cons, List.sum_nil, Option.getD]
  omega
theorem psum_in : ∀ {l : List Sp}, ok l → ∀ i, 0 ≤ psum l i ∧ psum l i ≤ psum l l.length
  | [], _, i => by simp [psum]
  | s :: r, h, 0 => by
    have h1 := ok_head h
    have h2 := (psum_in (l := r) (ok_tail h) r.length).1
    refine ⟨Int.le_refl _, ?_⟩
    show (0 : Int) ≤ psum (s :: r) (r.length + 1)
    show (0 : Int) ≤ ((s :: r.take r.length).map fun s => s.2 - s.1).sum
    rw [List.map_cons, List.sum_cons]
    have h3 : (0 : Int) ≤ ((r.take r.length).map fun s => s.2 - s.1).sum := h2
    omega
  | s :: r, h, i + 1 => by
    have h1 := ok_head h
    obtain ⟨h2, h3⟩ := psum_in (l := r) (ok_tail h) i
    have e1 : psum (s :: r) (i + 1) = s.2 - s.1 + psum r i := rfl
    have e2 : psum (s :: r) (s :: r).length = s.2 - s.1 + psum r r.length := rfl
    rw [e1, e2]
    omega
/-- The end of the span before. -/
def lastOf (l : List Sp) : Nat → Int
  | 0 => -1
  | i + 1 => (atS l i).2
theorem last_lt {l : List Sp} (h : ok l) (h0 : NnS l) {i : Nat} (hi : i < l.length) : lastOf l i < (atS l i).1 := by
  cases i with
  | zero =>
    have := (h0.at hi).1
    show (-1 : Int) < _
    omega
  | succ i => exact ok_step h i hi
theorem atS_ok {l : List Sp} (h : ok l) {i : Nat} (hi : i < l.length) : (atS l i).1 < (atS l i).2 := by
  unfold atS
  rw [List.getElem?_eq_getElem hi]
  exact ok_all h _ (List.getElem_mem hi)
theorem atB_memB {bs : List Mt.B} {j : Nat} (h : j < bs.length) : atB bs j ∈ bs := by
  rw [atB_eq h]
  exact List.getElem_mem h
theorem bix_of {bs : List Mt.B} (h : Mt.Val bs) {j : Nat} (hj : j < bs.length) : bix bs (atB bs j).1 = (j : Int) := by
  have h0 : 0 ≤ bix bs (atB bs j).1 := by
    rcases Int.lt_or_le (bix bs (atB bs j).1) 0 with hc | hc
    · exact absurd rfl (bix_none hc _ (atB_memB hj))
    · exact hc
  have h1 := bix_at h0
  have h2 := bix_lt bs (atB bs j).1
  generalize bix bs (atB bs j).1 = r at *
  rcases Nat.lt_trichotomy r.toNat j with h3 | h3 | h3
  · exact absurd h1 (h.2.2.2 j r.toNat hj h3)
  · omega
  · exact absurd h1.symm (h.2.2.2 r.toNat j (by omega) h3)
/-- All that NotesPlay asks. -/
theorem play {bs : List Mt.B} {l : List Nt} (h : Val bs l) (part : Int) {bar E : Int} (hb : 0 ≤ bix bs bar) (hE : Mt.bt (atB bs (bix bs bar).toNat) = E) :
    (ok (busy bs l part bar) ∧ ∀ s ∈ busy bs l part bar, s.2 ≤ E) ∧ (ok (rests bs l part bar) ∧ ∀ s ∈ rests bs l part bar, s.2 ≤ E) ∧
    psum (busy bs l part bar) (busy bs l part bar).length + psum (rests bs l part bar) (rests bs l part bar).length = E ∧
    (∀ t, cov (busy bs l part bar) t ↔ sounds l part bar t) ∧ ∀ t, 0 ≤ t → t < E → (cov (rests bs l part bar) t ↔ ¬ sounds l part bar t) := by
  subst hE
  have h4 := bix_lt bs bar
  have h5 := bt_in h.1 (r := (bix bs bar).toNat) (by omega)
  have hx := busy_ok h part bar
  have g := gaps_ok (Mt.bt (atB bs (bix bs bar).toNat)) (l := busy bs l part bar) (f := 0) hx.1 (fun s hs => busy_in h part bar s hs) (by omega)
  refine ⟨⟨hx.1, fun s hs => (busy_in h part bar s hs).2⟩, ⟨g.1, fun s hs => (g.2.1 s hs).2⟩, ?_, hx.2, fun t t0 t1 => ?_⟩
  · rw [psum_all, psum_all]
    have := g.2.2.2
    unfold rests
    omega
  · rw [show cov (rests bs l part bar) t ↔ _ from g.2.2.1 t, hx.2 t]
    exact ⟨fun a => a.2.2, fun a => ⟨t0, t1, a⟩⟩
/-- A note of a part in a bar sounds at a moment. -/
def sndP (part bar t : Int) (n : Nt) : Prop := n.pa = part ∧ n.ba = bar ∧ start n ≤ t ∧ t < start n + leng n
theorem snd_succ {P : Nat → Prop} {i : Nat} : (∃ q, q < i + 1 ∧ P q) ↔ (∃ q, q < i ∧ P q) ∨ P i := by
  constructor
  · rintro ⟨q, h1, h2⟩
    rcases Nat.lt_or_ge q i with h | h
    · exact .inl ⟨q, h, h2⟩
    · obtain rfl : q = i := by omega
      exact .inr h2
  · rintro (⟨q, h1, h2⟩ | h)
    · exact ⟨q, by omega, h2⟩
    · exact ⟨i, by omega, h⟩
theorem snd_all {l : List Nt} {part bar t : Int} : (∃ q, q < l.length ∧ sndP part bar t (atO l q)) ↔ sounds l part bar t := by
  unfold sounds
  constructor
  · rintro ⟨q, h1, h2⟩
    exact ⟨_, atO_mem h1, h2⟩
  · rintro ⟨n, hn, h⟩
    obtain ⟨q, hq, rfl⟩ := List.mem_iff_getElem.1 hn
    exact ⟨q, hq, by rw [atO_eq hq]; exact h⟩
end No
end Go.Proofs.YthamkigdpgajaaaDoor
