import Derived.Test.YthamkigdpgajaaaDoorHr
/- What NotesOrder needs. -/
namespace Go.Proofs.YthamkigdpgajaaaDoor
open Go.RowKit

namespace No
/-- Two members, each in the other's place. -/
def swp (l : List Nt) (a b : Nat) : List Nt := (l.set a (atO l b)).set b (atO l a)
theorem swp_length (l : List Nt) (a b : Nat) : (swp l a b).length = l.length := by unfold swp; simp
theorem swp_perm {l : List Nt} {a b : Nat} (ha : a < l.length) (hb : b < l.length) : (swp l a b).Perm l := by
  have h := Array.swap_perm (xs := l.toArray) (i := a) (j := b) (by simpa using ha) (by simpa using hb)
  have h2 := Array.perm_iff_toList_perm.1 h
  rw [Array.toList_swap] at h2
  unfold swp
  rw [atO_eq ha, atO_eq hb]
  simpa using h2
theorem val_perm {bs : List Mt.B} {l m : List Nt} (h : Val bs l) (hp : m.Perm l) : Val bs m :=
  ⟨h.1, by rw [hp.length_eq]; exact h.2.1, fun n hn => h.2.2.1 n (hp.subset hn), (hp.pairwise_iff (fun {a b} (hab : a.id ≠ b.id) => hab.symm)).2 h.2.2.2⟩
theorem sort_any {bs : List Mt.B} {l m : List Nt} (h : Val bs l) (hp : m.Perm l) : srt (lt bs) m = srt (lt bs) l :=
  srt_any (lt_asymm bs) (lt_trans bs) hp (lt_differ (val_perm h hp).2.2.2)
theorem sort_self {bs : List Mt.B} {l : List Nt} (h : Val bs l) : srt (lt bs) (srt (lt bs) l) = srt (lt bs) l :=
  srt_self (lt_asymm bs) (lt_trans bs) (srt_sorted (lt_trans bs) (lt_differ h.2.2.2))
theorem sort_val {bs : List Mt.B} {l : List Nt} (h : Val bs l) : Val bs (srt (lt bs) l) := val_perm h (srt_perm l)
theorem sort_at {bs : List Mt.B} {l : List Nt} (h : Val bs l) {i : Nat} (hi : i + 1 < (srt (lt bs) l).length) : lt bs (atO (srt (lt bs) l) i) (atO (srt (lt bs) l) (i + 1)) = true := by
  have hs := srt_sorted (lt_trans bs) (lt_differ (bs := bs) h.2.2.2)
  rw [atO_eq (by omega), atO_eq hi]
  exact List.pairwise_iff_getElem.1 hs i (i + 1) (by omega) hi (by omega)
theorem sort_mem {bs : List Mt.B} {l : List Nt} {n : Nt} : n ∈ srt (lt bs) l ↔ n ∈ l := (srt_perm l).mem_iff
/-- By its ID a note is found. -/
theorem id_one {bs : List Mt.B} {l : List Nt} (h : Val bs l) {a b : Nt} (ha : a ∈ l) (hb : b ∈ l) (e : a.id = b.id) : a = b := by
  obtain ⟨i, hi, rfl⟩ := List.mem_iff_getElem.1 ha
  obtain ⟨j, hj, rfl⟩ := List.mem_iff_getElem.1 hb
  rcases Nat.lt_trichotomy i j with hij | hij | hij
  · exact absurd e (List.pairwise_iff_getElem.1 h.2.2.2 i j hi hj hij)
  · subst hij; rfl
  · exact absurd e.symm (List.pairwise_iff_getElem.1 h.2.2.2 j i hj hi hij)
end No
end Go.Proofs.YthamkigdpgajaaaDoor
