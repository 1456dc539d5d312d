/- The mathematics of FormSteps: which bar can follow which. -/
import Derived.Test.YtakbpgljbbkmkaaHv
namespace Go.Proofs.Ytakbpgljbbkmkaa
open Go.RowKit

namespace Fo
/-- All bars from one to before another one are in endings. -/
def Skp (es : List T3) (p q : Int) : Prop := ∀ b, p ≤ b → b < q → ∃ e ∈ es, inn e b
/-- A bar can follow another one. -/
def Stp (f : Fm) (a b : Int) : Prop := (a < b ∧ Skp f.es (a + 1) b) ∨ (∃ x ∈ f.rs, inn x a ∧ inn x b ∧ Skp f.es (a + 1) x.b ∧ Skp f.es x.a b) ∨ (0 < f.ja ∧ a < f.ja ∧ f.jt ≤ b ∧ Skp f.es (a + 1) f.ja ∧ Skp f.es f.jt b)
theorem Skp.nil {es : List T3} {p q : Int} (h : q ≤ p) : Skp es p q := fun b h1 h2 => by omega
theorem Skp.app {es : List T3} {p q r : Int} (h : Skp es p q) (h2 : Skp es q r) : Skp es p r := fun b h3 h4 => by
  by_cases h5 : b < q
  · exact h b h3 h5
  · exact h2 b (by omega) h4
/-- A list of bars goes from lo to before hi. -/
structure Run (f : Fm) (lo hi : Int) (l : List Int) : Prop where
  no : l = [] → Skp f.es lo hi
  fst : ∀ b r, l = b :: r → Skp f.es lo b
  lst : ∀ b r, l = r ++ [b] → Skp f.es (b + 1) hi
  inn : ∀ b ∈ l, lo ≤ b ∧ b < hi
  chain : ∀ a b r s, l = r ++ a :: b :: s → Stp f a b
theorem chain_app {P : Int → Int → Prop} {l m : List Int} (h1 : ∀ a b r s, l = r ++ a :: b :: s → P a b) (h2 : ∀ a b r s, m = r ++ a :: b :: s → P a b) (h : ∀ a r b s, l = r ++ [a] → m = b :: s → P a b) : ∀ a b r s, l ++ m = r ++ a :: b :: s → P a b := fun a b r s e => by
  rcases List.append_eq_append_iff.1 e with ⟨t, e1, e2⟩ | ⟨t, e1, e2⟩
  · exact h2 a b t s e2
  · match t, e1, e2 with
    | [], e1, e2 => exact h2 a b [] s (by simpa using e2.symm)
    | [y], e1, e2 =>
      simp only [List.cons_append, List.nil_append, List.cons.injEq] at e2
      obtain ⟨rfl, e2⟩ := e2
      exact h _ _ _ _ e1 e2.symm
    | y :: z :: t, e1, e2 =>
      simp only [List.cons_append, List.cons.injEq] at e2
      obtain ⟨rfl, rfl, e2⟩ := e2
      exact h1 _ _ _ _ e1
theorem Run.join {f : Fm} {lo mid mid2 hi : Int} {l m : List Int} (h1 : Run f lo mid l) (h2 : Run f mid2 hi m) (hm : mid2 = mid) (ha : lo ≤ mid) (hb : mid ≤ hi) : Run f lo hi (l ++ m) := by
  subst hm
  refine ⟨fun e => ?_, fun b r e => ?_, fun b r e => ?_, fun b hb2 => ?_, chain_app h1.chain h2.chain fun a r b s e1 e2 => ?_⟩
  · obtain ⟨e1, e2⟩ := List.append_eq_nil_iff.1 e
    exact (h1.no e1).app (h2.no e2)
  · match l, e, h1 with
    | [], e, h1 => exact (h1.no rfl).app (h2.fst b r (by simpa using e))
    | y :: l, e, h1 =>
      simp only [List.cons_append, List.cons.injEq] at e
      obtain ⟨rfl, e⟩ := e
      exact h1.fst _ l rfl
  · rcases List.eq_nil_or_concat m with rfl | ⟨m2, y, rfl⟩
    · rw [List.append_nil] at e
      exact (h1.lst b r e).app (h2.no rfl)
    · rw [List.concat_eq_append, ← List.append_assoc] at e
      have := (List.append_inj' e rfl).2
      simp only [List.cons.injEq, and_true] at this
      subst this
      exact h2.lst _ m2 (by rw [List.concat_eq_append])
  · rcases List.mem_append.1 hb2 with h | h
    · have := h1.inn b h; omega
    · have := h2.inn b h; omega
  · have := h1.inn a (by rw [e1]; simp)
    have h5 := h2.inn b (by rw [e2]; simp)
    exact .inl ⟨by omega, (h1.lst a r e1).app (h2.fst b s e2)⟩
theorem Run.again {f : Fm} {x : T3} (hx : x ∈ f.rs) {l m : List Int} (h1 : Run f x.a x.b l) (h2 : Run f x.a x.b m) : Run f x.a x.b (l ++ m) := by
  refine ⟨fun e => ?_, fun b r e => ?_, fun b r e => ?_, fun b hb2 => ?_, chain_app h1.chain h2.chain fun a r b s e1 e2 => ?_⟩
  · obtain ⟨e1, e2⟩ := List.append_eq_nil_iff.1 e
    exact h1.no e1
  · match l, e, h1 with
    | [], e, h1 => exact h2.fst b r (by simpa using e)
    | y :: l, e, h1 =>
      simp only [List.cons_append, List.cons.injEq] at e
      obtain ⟨rfl, e⟩ := e
      exact h1.fst _ l rfl
  · rcases List.eq_nil_or_concat m with rfl | ⟨m2, y, rfl⟩
    · rw [List.append_nil] at e
      exact h1.lst b r e
    · rw [List.concat_eq_append, ← List.append_assoc] at e
      have := (List.append_inj' e rfl).2
      simp only [List.cons.injEq, and_true] at this
      subst this
      exact h2.lst _ m2 (by rw [List.concat_eq_append])
  · rcases List.mem_append.1 hb2 with h | h
    · exact h1.inn b h
    · exact h2.inn b h
  · exact .inr (.inl ⟨x, hx, h1.inn a (by rw [e1]; simp), h2.inn b (by rw [e2]; simp), h1.lst a r e1, h2.fst b s e2⟩)
theorem Run.empty {f : Fm} {lo hi : Int} (h : Skp f.es lo hi) : Run f lo hi [] := ⟨fun _ => h, fun b r e => (by cases e), fun b r e => (by simp at e), fun b hb => (by cases hb), fun a b r s e => (by simp at e)⟩
theorem Run.one (f : Fm) (b : Int) : Run f b (b + 1) [b] := by
  refine ⟨fun e => (by cases e), fun c r e => ?_, fun c r e => ?_, fun c hc => ?_, fun a c r s e => ?_⟩
  · simp only [List.cons.injEq] at e
    rw [e.1]
    exact .nil (Int.le_refl _)
  · have h := List.append_inj' (show [] ++ [b] = r ++ [c] from e) rfl
    simp only [List.cons.injEq, and_true] at h
    rw [h.2]
    exact .nil (Int.le_refl _)
  · rw [List.mem_singleton.1 hc]; omega
  · have := congrArg List.length e
    simp at this
    omega
theorem run_pas (f : Fm) (lo pass : Int) : ∀ m : Nat, Run f lo (lo + m) (pas f.es lo pass m)
  | 0 => .empty (.nil (by omega))
  | m + 1 => by
    unfold pas
    refine (run_pas f lo pass m).join (mid2 := lo + m) (hi := lo + (m + 1 : Nat)) ?_ rfl (by omega) (by omega)
    rw [show lo + ((m + 1 : Nat) : Int) = lo + m + 1 by omega]
    by_cases h : pld f.es (lo + m) pass
    · rw [if_pos h]; exact .one f _
    · rw [if_neg h]
      refine .empty fun b h1 h2 => ?_
      obtain rfl : b = lo + m := by omega
      unfold pld at h
      by_cases h3 : ∃ e ∈ f.es, Fo.inn e (lo + m)
      · exact h3
      · exact absurd (fun x hx hin => absurd ⟨x, hx, hin⟩ h3) h
theorem run_pss {f : Fm} {x : T3} (hx : x ∈ f.rs) (h : x.a < x.b) (first : Int) : ∀ k : Nat, Run f x.a x.b (pss f.es x first (k + 1))
  | 0 => by
    unfold pss pss
    have := run_pas f x.a (first + 0) (x.b - x.a).toNat
    rw [show x.a + ((x.b - x.a).toNat : Int) = x.b by omega] at this
    exact this
  | k + 1 => by
    unfold pss
    have := run_pas f x.a (first + ((k + 1 : Nat) : Int)) (x.b - x.a).toNat
    rw [show x.a + ((x.b - x.a).toNat : Int) = x.b by omega] at this
    exact (run_pss hx h first k).again hx this
theorem run_blk {f : Fm} (hu : ∀ x ∈ f.rs, x.a < x.b ∧ 1 ≤ x.c) (again : Bool) (bar : Int) : Run f bar (nxt f bar) (blk f again bar) := by
  unfold blk nxt
  by_cases h : six f.rs bar < 0
  · rw [if_pos h, if_pos h]; exact .one f bar
  · rw [if_neg h, if_neg h]
    have h1 := six_at (l := f.rs) (bar := bar) (by omega)
    have h2 := six_lt f.rs bar
    have h3 := at3_mem (l := f.rs) (i := (six f.rs bar).toNat) (by omega)
    generalize at3 f.rs (six f.rs bar).toNat = x at *
    obtain ⟨h4, h5⟩ := hu x h3
    obtain ⟨k, hk⟩ : ∃ k : Nat, (x.c + 1 - (if again then x.c else 1)).toNat = k + 1 := ⟨(x.c + 1 - (if again then x.c else 1)).toNat - 1, by split <;> omega⟩
    rw [hk, ← h1]
    exact run_pss h3 h4 _ k
theorem run_prt {f : Fm} (hu : ∀ x ∈ f.rs, x.a < x.b ∧ 1 ≤ x.c) (again : Bool) {hi : Int} (hc : ∀ x ∈ f.rs, x.a < hi → x.b ≤ hi) : ∀ (k : Nat) (bar : Int), (hi - bar).toNat ≤ k → bar ≤ hi → Run f bar hi (prt f again hi k bar)
  | 0, bar, h1, h2 => by
    unfold prt
    exact .empty (.nil (by omega))
  | k + 1, bar, h1, h2 => by
    unfold prt
    by_cases hb : bar < hi
    · rw [if_pos hb]
      have hn := nxt_lt (f := f) (fun x hx => (hu x hx).1) bar
      have hn2 : nxt f bar ≤ hi := by
        unfold nxt
        split
        · omega
        · rename_i h0
          have h3 := six_at (l := f.rs) (bar := bar) (by omega)
          have h4 := six_lt f.rs bar
          exact hc _ (at3_mem (l := f.rs) (i := (six f.rs bar).toNat) (by omega)) (by omega)
      exact (run_blk hu again bar).join (run_prt hu again hc k (nxt f bar) (by omega) hn2) rfl (by omega) hn2
    · rw [if_neg hb]
      exact .empty (.nil (by omega))
theorem Val.steps {f : Fm} (V : Val f) : ∀ a b r s, whl f = r ++ a :: b :: s → Stp f a b := by
  have hA := chR_all (Int.le_refl 0) V.rs
  have hu : ∀ x ∈ f.rs, x.a < x.b ∧ 1 ≤ x.c := fun x hx => by have := hA x hx; omega
  have hn := V.n
  have hj := V.j
  unfold okJ at hj
  unfold whl
  rcases hj with ⟨e, _, _⟩ | ⟨h1, h2, h3, h4⟩
  · rw [if_pos e]
    exact (run_prt hu false (hi := f.n) (fun x hx _ => by have := hA x hx; omega) _ 0 (Nat.le_refl _) (by omega)).chain
  · rw [if_neg (by omega)]
    have R1 := run_prt hu false (hi := f.ja) (fun x hx h => by
      by_cases h5 : x.b ≤ f.ja
      · exact h5
      · exact absurd ⟨x, hx, h, by omega⟩ h2) _ 0 (Nat.le_refl _) (by omega)
    have R2 := run_prt hu true (hi := f.jf) (fun x hx h => by
      by_cases h5 : x.b ≤ f.jf
      · exact h5
      · exact absurd ⟨x, hx, h, by omega⟩ h4) _ f.jt (Nat.le_refl _) (by omega)
    refine chain_app R1.chain R2.chain fun a r b s e1 e2 => .inr (.inr ⟨by omega, ?_, ?_, R1.lst a r e1, R2.fst b s e2⟩)
    · have h9 : par f false 0 f.ja = r ++ [a] := e1
      exact (R1.inn a (by show a ∈ par f false 0 f.ja; rw [h9]; simp)).2
    · have h9 : par f true f.jt f.jf = b :: s := e2
      exact (R2.inn b (by show b ∈ par f true f.jt f.jf; rw [h9]; simp)).1
theorem Val.stp {f : Fm} (V : Val f) {i : Nat} (h : i + 1 < (whl f).length) : Stp f (whl f)[i] (whl f)[i + 1] := by
  refine V.steps _ _ ((whl f).take i) ((whl f).drop (i + 2)) ?_
  conv => lhs; rw [← List.take_append_drop i (whl f), List.drop_eq_getElem_cons (by omega), List.drop_eq_getElem_cons h]
end Fo
end Go.Proofs.Ytakbpgljbbkmkaa
