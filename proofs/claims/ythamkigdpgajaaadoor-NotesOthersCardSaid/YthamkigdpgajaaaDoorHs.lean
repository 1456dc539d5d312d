import Derived.Test.YthamkigdpgajaaaDoorHr
/- What NotesOthers needs: the part's own notes in the bar, with other voices, ossias and pitches. -/
namespace Go.Proofs.YthamkigdpgajaaaDoor
open Go.RowKit

namespace No
def withV (n : Nt) (i : Nat) : Nt := { n with vo := (i : Int) % 10, os := (i : Int) % 21 }
def withP (n : Nt) (a b c : Int) : Nt := { n with st := a, al := b, oc := c }
open Classical in
/-- The note that is appended for the note n at i. -/
noncomputable def oth (bs : List Mt.B) (a b c : Int) (i : Nat) (n : Nt) : Nt := if okN bs (withP (withV n i) a b c) then withP (withV n i) a b c else withV n i
/-- What has been appended behind i notes. -/
noncomputable def othL (bs : List Mt.B) (a b c part bar : Int) (l : List Nt) : Nat → List Nt
  | 0 => []
  | i + 1 => othL bs a b c part bar l i ++ if (atO l i).pa = part ∧ (atO l i).ba = bar then [oth bs a b c i (atO l i)] else []
theorem oth_same (bs : List Mt.B) (a b c : Int) (i : Nat) (n : Nt) : (oth bs a b c i n).id = n.id ∧ (oth bs a b c i n).pa = n.pa ∧ (oth bs a b c i n).ba = n.ba ∧ start (oth bs a b c i n) = start n ∧ leng (oth bs a b c i n) = leng n := by
  unfold oth
  split <;> exact ⟨rfl, rfl, rfl, rfl, rfl⟩
theorem okN_withV {bs : List Mt.B} {n : Nt} (h : okN bs n) (i : Nat) : okN bs (withV n i) := by
  obtain ⟨h0, h1, h2, h3, h4, h5, _, _, _, _, h6, h7, h8⟩ := h
  refine ⟨h0, h1, h2, h3, h4, h5, ?_, ?_, ?_, ?_, h6, h7, h8⟩
  · show 0 ≤ (i : Int) % 10; omega
  · show (i : Int) % 10 ≤ 9; omega
  · show 0 ≤ (i : Int) % 21; omega
  · show (i : Int) % 21 ≤ 20; omega
theorem okN_oth {bs : List Mt.B} {n : Nt} (h : okN bs n) (a b c : Int) (i : Nat) : okN bs (oth bs a b c i n) := by
  unfold oth
  split
  · assumption
  · exact okN_withV h i
theorem mem_othL {bs : List Mt.B} {a b c part bar : Int} {l : List Nt} : ∀ {i : Nat} {x : Nt}, x ∈ othL bs a b c part bar l i ↔ ∃ q, q < i ∧ ((atO l q).pa = part ∧ (atO l q).ba = bar) ∧ x = oth bs a b c q (atO l q)
  | 0, x => by simp [othL]
  | i + 1, x => by
    show x ∈ othL bs a b c part bar l i ++ _ ↔ _
    rw [List.mem_append, mem_othL, snd_succ]
    refine or_congr Iff.rfl ?_
    by_cases h : (atO l i).pa = part ∧ (atO l i).ba = bar
    · rw [if_pos h]; simp [h]
    · rw [if_neg h]; simp [h]
theorem othL_length {bs : List Mt.B} {a b c part bar : Int} {l : List Nt} : ∀ i : Nat, (othL bs a b c part bar l i).length ≤ i
  | 0 => by simp [othL]
  | i + 1 => by
    have := othL_length (bs := bs) (a := a) (b := b) (c := c) (part := part) (bar := bar) (l := l) i
    show (othL bs a b c part bar l i ++ _).length ≤ _
    rw [List.length_append]
    split <;> simp <;> omega
theorem othL_ids {bs : List Mt.B} {a b c part bar : Int} {l : List Nt} (h : l.Pairwise fun a b => a.id ≠ b.id) : ∀ i : Nat, i ≤ l.length → (othL bs a b c part bar l i).Pairwise fun a b => a.id ≠ b.id
  | 0, _ => List.Pairwise.nil
  | i + 1, hi => by
    show (othL bs a b c part bar l i ++ _).Pairwise _
    rw [List.pairwise_append]
    refine ⟨othL_ids h i (by omega), ?_, fun x hx y hy => ?_⟩
    · split <;> simp
    · split at hy
      · simp only [List.mem_singleton] at hy
        subst hy
        obtain ⟨q, hq, _, rfl⟩ := mem_othL.1 hx
        rw [(oth_same bs a b c q _).1, (oth_same bs a b c i _).1, atO_eq (by omega), atO_eq (by omega)]
        exact List.pairwise_iff_getElem.1 h q i (by omega) (by omega) hq
      · cases hy
theorem othL_val {bs : List Mt.B} {l : List Nt} (h : Val bs l) (a b c part bar : Int) : Val bs (othL bs a b c part bar l l.length) :=
  ⟨h.1, Nat.le_trans (othL_length _) h.2.1, fun n hn => by
    obtain ⟨q, hq, _, rfl⟩ := mem_othL.1 hn
    exact okN_oth (h.2.2.1 _ (atO_mem hq)) a b c q, othL_ids h.2.2.2 _ (Nat.le_refl _)⟩
theorem othL_sounds {bs : List Mt.B} {l : List Nt} (a b c part bar t : Int) : sounds l part bar t ↔ sounds (othL bs a b c part bar l l.length) part bar t := by
  rw [← snd_all]
  unfold sounds
  constructor
  · rintro ⟨q, hq, h1, h2, h3, h4⟩
    obtain ⟨s1, s2, s3, s4, s5⟩ := oth_same bs a b c q (atO l q)
    exact ⟨_, mem_othL.2 ⟨q, hq, ⟨h1, h2⟩, rfl⟩, by rw [s2]; exact h1, by rw [s3]; exact h2, by rw [s4]; exact h3, by rw [s4, s5]; exact h4⟩
  · rintro ⟨x, hx, h1, h2, h3, h4⟩
    obtain ⟨q, hq, hpb, rfl⟩ := mem_othL.1 hx
    obtain ⟨s1, s2, s3, s4, s5⟩ := oth_same bs a b c q (atO l q)
    rw [s4] at h3 h4
    rw [s5] at h4
    exact ⟨q, hq, hpb.1, hpb.2, h3, h4⟩
/-- All that NotesOthers asks. -/
theorem others {bs : List Mt.B} {l : List Nt} (h : Val bs l) (a b c part bar : Int) : rests bs l part bar = rests bs (othL bs a b c part bar l l.length) part bar := by
  unfold rests
  rw [busy_same h (othL_val h a b c part bar) (othL_sounds a b c part bar)]
end No
end Go.Proofs.YthamkigdpgajaaaDoor
