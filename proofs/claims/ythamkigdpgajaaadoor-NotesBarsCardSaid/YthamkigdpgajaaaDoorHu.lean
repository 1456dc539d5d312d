import Derived.Test.YthamkigdpgajaaaDoorHt
/- What NotesBars needs. -/
namespace Go.Proofs.YthamkigdpgajaaaDoor
open Go.RowKit

namespace No
theorem lt_bix {bs : List Mt.B} {a b : Nt} (h : bix bs a.ba < bix bs b.ba) : lt bs a b = true := by
  unfold lt key ltk
  rw [if_neg (by omega)]
  simpa using h
theorem lt_pa {bs : List Mt.B} {a b : Nt} (h : bix bs a.ba = bix bs b.ba) (h2 : a.pa < b.pa) : lt bs a b = true := by
  unfold lt key ltk
  rw [if_pos h]
  unfold ltk
  rw [if_neg (by omega)]
  simpa using h2
/-- What has been collected: all notes of the bars before j, and those of the bar j up to a part. -/
def BarsInv (bs : List Mt.B) (l all : List Nt) (j last : Int) : Prop :=
  (all.Pairwise fun a b => lt bs a b = true) ∧ ∀ n, n ∈ all ↔ n ∈ l ∧ (bix bs n.ba < j ∨ (bix bs n.ba = j ∧ n.pa ≤ last))
theorem bars_start {bs : List Mt.B} {l : List Nt} (h : Val bs l) : BarsInv bs l [] 0 0 := by
  refine ⟨List.Pairwise.nil, fun n => ⟨(fun h => by cases h), fun ⟨hn, hc⟩ => ?_⟩⟩
  obtain ⟨h0, _, _, _, h1, _⟩ := h.2.2.1 n hn
  omega
theorem bars_part {bs : List Mt.B} {l all : List Nt} {j last next bar : Int} (h : Val bs l) (hi : BarsInv bs l all j last) (hb : 0 ≤ bix bs bar) (hj : bix bs bar = j) (hl : last < next) (hno : ∀ n ∈ l, last < n.pa → next ≤ n.pa) :
    BarsInv bs l (all ++ own bs l next bar) j next := by
  have hs : (own bs l next bar).Pairwise fun a b => lt bs a b = true := srt_sorted (lt_trans bs) ((lt_differ h.2.2.2).sublist List.filter_sublist)
  refine ⟨List.pairwise_append.2 ⟨hi.1, hs, fun a ha b hb2 => ?_⟩, fun n => ?_⟩
  · obtain ⟨_, hc⟩ := (hi.2 a).1 ha
    obtain ⟨_, h1, h2⟩ := own_mem.1 hb2
    rw [← h2] at hj
    rcases hc with hc | ⟨hc, hd⟩
    · exact lt_bix (by omega)
    · exact lt_pa (by omega) (by omega)
  · rw [List.mem_append, hi.2 n, own_mem]
    constructor
    · rintro (⟨h1, h2 | ⟨h2, h3⟩⟩ | ⟨h1, h2, h3⟩)
      · exact ⟨h1, .inl h2⟩
      · exact ⟨h1, .inr ⟨h2, by omega⟩⟩
      · exact ⟨h1, .inr ⟨by rw [h3]; exact hj, by omega⟩⟩
    · rintro ⟨h1, h2 | ⟨h2, h3⟩⟩
      · exact .inl ⟨h1, .inl h2⟩
      · by_cases hp : n.pa ≤ last
        · exact .inl ⟨h1, .inr ⟨h2, hp⟩⟩
        · have h4 := hno n h1 (by omega)
          refine .inr ⟨h1, by omega, ?_⟩
          have h5 := (h.2.2.1 n h1).1
          have h6 := bix_at h5
          have h7 := bix_at hb
          rw [h2, ← hj] at h6
          exact h6.symm.trans h7
theorem bars_next {bs : List Mt.B} {l all : List Nt} {j last : Int} (h : Val bs l) (hi : BarsInv bs l all j last) (hno : ∀ n ∈ l, n.pa ≤ last) : BarsInv bs l all (j + 1) 0 := by
  refine ⟨hi.1, fun n => (hi.2 n).trans ⟨?_, ?_⟩⟩
  · rintro ⟨h1, h2⟩
    exact ⟨h1, .inl (by omega)⟩
  · rintro ⟨h1, h2⟩
    obtain ⟨h0, _, _, _, h3, _⟩ := h.2.2.1 n h1
    have := hno n h1
    exact ⟨h1, by omega⟩
theorem bars_end {bs : List Mt.B} {l all : List Nt} (h : Val bs l) (hi : BarsInv bs l all bs.length 0) : all = srt (lt bs) l := by
  have hs := srt_sorted (lt_trans bs) (lt_differ (bs := bs) h.2.2.2)
  have nd : ∀ {m : List Nt}, (m.Pairwise fun a b => lt bs a b = true) → m.Nodup := fun hm => hm.imp (fun {a b} hab e => by
    subst e
    have := lt_asymm bs a a hab
    rw [hab] at this
    cases this)
  refine uniq (lt_asymm bs) ((List.perm_ext_iff_of_nodup (nd hi.1) (nd hs)).2 fun n => ?_) hi.1 hs
  rw [hi.2 n, sort_mem]
  refine ⟨fun a => a.1, fun a => ⟨a, .inl (bix_lt bs n.ba)⟩⟩
end No
end Go.Proofs.YthamkigdpgajaaaDoor
