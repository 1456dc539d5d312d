/- A repeat's number of times changed: what stays; a row of which one cell is written. -/
import Derived.Test.YtakbpgljbbkmkaaWq
namespace Go.Proofs.Ytakbpgljbbkmkaa
open Go.RowKit

namespace Fo
/-- The list with another number at one place. -/
def setL (l : List T3) (k : Nat) (t : Int) : List T3 := l.set k ⟨(at3 l k).a, (at3 l k).b, t⟩
def setC (f : Fm) (k : Nat) (t : Int) : Fm := {f with rs := setL f.rs k t}
theorem setL_len (l : List T3) (k : Nat) (t : Int) : (setL l k t).length = l.length := by unfold setL; rw [List.length_set]
theorem setL_at {l : List T3} {k : Nat} {t : Int} {i : Nat} (hi : i < l.length) : at3 (setL l k t) i = if i = k then ⟨(at3 l k).a, (at3 l k).b, t⟩ else at3 l i := by
  rw [at3_eq (by rw [setL_len]; exact hi)]
  unfold setL
  rw [List.getElem_set]
  by_cases h : k = i
  · rw [if_pos h, if_pos h.symm]
  · rw [if_neg h, if_neg (fun e => h e.symm), at3_eq hi]
theorem setL_fw {l : List T3} {k : Nat} {t : Int} {x : T3} (h : x ∈ setL l k t) : ∃ z ∈ l, z.a = x.a ∧ z.b = x.b ∧ (x.c = z.c ∨ x.c = t) := by
  obtain ⟨i, hi, rfl⟩ := List.getElem_of_mem h
  have hi2 : i < l.length := by rwa [setL_len] at hi
  rw [← at3_eq hi, setL_at hi2]
  by_cases e : i = k
  · subst e
    rw [if_pos rfl]
    exact ⟨at3 l i, at3_mem hi2, rfl, rfl, .inr rfl⟩
  · rw [if_neg e]
    exact ⟨at3 l i, at3_mem hi2, rfl, rfl, .inl rfl⟩
theorem setL_bw {l : List T3} {k : Nat} {t : Int} {z : T3} (h : z ∈ l) : ∃ x ∈ setL l k t, x.a = z.a ∧ x.b = z.b := by
  obtain ⟨i, hi, rfl⟩ := List.getElem_of_mem h
  have hm : at3 (setL l k t) i ∈ setL l k t := at3_mem (by rw [setL_len]; exact hi)
  refine ⟨_, hm, ?_⟩
  rw [setL_at hi, ← at3_eq hi]
  by_cases e : i = k
  · subst e
    rw [if_pos rfl]
    exact ⟨rfl, rfl⟩
  · rw [if_neg e]
    exact ⟨rfl, rfl⟩
theorem ins_setL (l : List T3) (k : Nat) (t lo hi : Int) : ins (setL l k t) lo hi ↔ ins l lo hi := by
  constructor
  · rintro ⟨x, hx, h1, h2⟩
    obtain ⟨z, hz, e1, e2, _⟩ := setL_fw hx
    exact ⟨z, hz, by omega, by omega⟩
  · rintro ⟨z, hz, h1, h2⟩
    obtain ⟨x, hx, e1, e2⟩ := setL_bw (k := k) (t := t) hz
    exact ⟨x, hx, by omega, by omega⟩
theorem wi_setL (l : List T3) (k : Nat) (t b : Int) : wi (setL l k t) b ↔ wi l b := by
  constructor
  · rintro ⟨x, hx, h1, h2⟩
    obtain ⟨z, hz, e1, e2, _⟩ := setL_fw hx
    exact ⟨z, hz, by omega, by omega⟩
  · rintro ⟨z, hz, h1, h2⟩
    obtain ⟨x, hx, e1, e2⟩ := setL_bw (k := k) (t := t) hz
    exact ⟨x, hx, by omega, by omega⟩
theorem chR_setL {n t : Int} (ht : 1 ≤ t ∧ t ≤ 9) : ∀ {last : Int} (l : List T3) (k : Nat), chR n last l → chR n last (setL l k t)
  | _, [], _, _ => by unfold setL; exact True.intro
  | last, x :: l, 0, ⟨h1, h2⟩ => ⟨⟨h1.1, h1.2.1, h1.2.2.1, ht⟩, h2⟩
  | last, x :: l, k + 1, ⟨h1, h2⟩ => ⟨h1, chR_setL ht l k h2⟩
theorem chE_congr {rs rs' : List T3} (h : ∀ lo hi, ins rs lo hi → ins rs' lo hi) : ∀ {last : Int} {l : List T3}, chE rs last l → chE rs' last l
  | _, [], _ => True.intro
  | _, _ :: _, ⟨h1, h2⟩ => ⟨⟨h1.1, h1.2.1, h _ _ h1.2.2.1, h1.2.2.2⟩, chE_congr h h2⟩
theorem Ok.setC {f : Fm} (V : Ok f) {k : Nat} {t : Int} (ht : 1 ≤ t ∧ t ≤ 9) : Ok (setC f k t) := by
  refine ⟨V.n, by show (setL f.rs k t).length ≤ 100; rw [setL_len]; exact V.rl, chR_setL ht _ _ V.rs, V.el, chE_congr (fun lo hi h => (ins_setL _ _ _ _ _).2 h) V.es, ?_⟩
  have hj := V.j
  unfold okJ at hj ⊢
  show _ ∨ (_ ∧ ¬ wi (setL f.rs k t) f.ja ∧ ¬ wi (setL f.rs k t) f.jt ∧ ¬ wi (setL f.rs k t) f.jf)
  rw [wi_setL, wi_setL, wi_setL]
  exact hj
end Fo
theorem vT_cons (b : Fo.T3) (l : List Fo.T3) : vT (b :: l) = [.int .i64 b.a, .int .i64 b.b, .int .i64 b.c] ++ vT l := by unfold vT; rw [List.flatMap_cons]; rfl
theorem vT_setL : ∀ (l : List Fo.T3) (k : Nat) (t : Int), k < l.length → vT (Fo.setL l k t) = (vT l).set (k * 3 + 2) (.int .i64 t)
  | [], _, _, h => by simp at h
  | b :: l, 0, t, _ => by
    show vT (⟨b.a, b.b, t⟩ :: l) = _
    rw [vT_cons, vT_cons]
    rfl
  | b :: l, k + 1, t, h => by
    show vT (b :: Fo.setL l k t) = _
    rw [vT_cons, vT_cons, vT_setL l k t (by simpa using h), show (k + 1) * 3 + 2 = (k * 3 + 2) + 3 by omega]
    rfl
theorem own_putT {w : World} {base g n cap k : Nat} {e : TypeId} {l : List Fo.T3} {t : Int} (h : w.ownsRow base e 3 (.slice (some ⟨g, 0, none⟩) n cap) n (vT l)) (hk : k < l.length) : (w.setCell ⟨g, k * 3 + 2, none⟩ (.int .i64 t)).ownsRow base e 3 (.slice (some ⟨g, 0, none⟩) n cap) n (vT (Fo.setL l k t)) := by
  refine ⟨by rw [vT_length, Fo.setL_len, ← vT_length]; exact h.1, ?_⟩
  rcases h.2 with ⟨e1, _⟩ | ⟨g2, cap2, cur, e1, h1, h2, h3, h4, h5, h6⟩
  · cases e1
  · cases e1
    refine .inr ⟨g, cap, cur.setIfInBounds (k * 3 + 2) (.int .i64 t), rfl, h1, heap_setCell_same w g (k * 3 + 2) cur e _ h2, h3, h4, by rw [Array.size_setIfInBounds]; exact h5, ?_⟩
    rw [vT_setL l k t hk, ← h6, Array.toList_setIfInBounds, List.take_set]
theorem own_frz {w : World} {base g n cap : Nat} {e : TypeId} {s : Nat} {xs : List Value} (h : w.ownsRow base e s (.slice (some ⟨g, 0, none⟩) n cap) n xs) (j : Nat) : w.frozen? ⟨g, j, none⟩ = false := by
  rcases h.2 with ⟨e1, _⟩ | ⟨g2, cap2, cur, e1, h1, h2, h3, h4, h5, h6⟩
  · cases e1
  · cases e1
    exact frozen_of_row w g j cur e h2
theorem own_openT {w : World} {base : Nat} {A : Option Addr} {e : TypeId} {n cap : Nat} {l : List Fo.T3} (h : w.ownsRow base e 3 (.slice A n cap) n (vT l)) (h0 : 0 < n) : ∃ g, A = some ⟨g, 0, none⟩ ∧ base ≤ g ∧ g < w.heap.size := by
  rcases h.2 with ⟨_, h1⟩ | ⟨g2, cap2, cur, e1, h1, h2, _⟩
  · omega
  · cases e1
    exact ⟨g2, rfl, h1, (Array.getElem?_eq_some_iff.1 h2).1⟩
end Go.Proofs.Ytakbpgljbbkmkaa
