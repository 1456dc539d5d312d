/- Plain facts on the bytes of lists, and on frames; nothing of the program is read here. -/
import Derived.Test.YtnnhpbkhfaaaeaaCm
namespace Go.Proofs.Ytnnhpbkhfaaaeaa.Cd
open Go.Proofs.Ytnnhpbkhfaaaeaa.Dg

def wds (l : List Int) : Prop := ∀ n ∈ l, wd n
def by8 (b : List Nat) : Prop := ∀ x ∈ b, x < 256
theorem by8.app {a b : List Nat} (h : by8 a) (k : by8 b) : by8 (a ++ b) := fun x hx => (List.mem_append.1 hx).elim (h x) (k x)
theorem by8.take {b : List Nat} (h : by8 b) (k : Nat) : by8 (b.take k) := fun x hx => h x (List.mem_of_mem_take hx)
theorem by8.drop {b : List Nat} (h : by8 b) (k : Nat) : by8 (b.drop k) := fun x hx => h x (List.mem_of_mem_drop hx)
/-- The bytes of integers, one behind the other. -/
def ones (l : List Int) : List Nat := l.flatMap one
theorem ones_cons (n : Int) (l : List Int) : ones (n :: l) = one n ++ ones l := by unfold ones; rw [List.flatMap_cons]
theorem ones_app (a b : List Int) : ones (a ++ b) = ones a ++ ones b := List.flatMap_append ..
theorem ones_by8 (l : List Int) : by8 (ones l) := fun x hx => by
  obtain ⟨n, _, h⟩ := List.mem_flatMap.1 hx
  exact one_lt n x h
/-- So many integers, read one after the other, and what is left. -/
def rdn : Nat → List Nat → Option (List Int × List Nat)
  | 0, b => some ([], b)
  | n + 1, b => match rd b with
    | none => none
    | some (v, k) => match rdn n (b.drop k) with
      | none => none
      | some (l, r) => some (v :: l, r)
theorem rdn_ones (l : List Int) (h : wds l) (rest : List Nat) : rdn l.length (ones l ++ rest) = some (l, rest) := by
  induction l with
  | nil => rfl
  | cons n l ih =>
    rw [ones_cons, List.append_assoc, List.length_cons, rdn, rd_one (h n (by simp))]
    simp only [List.drop_left]
    rw [ih fun m hm => h m (by simp [hm])]
theorem rdn_some : ∀ (n : Nat) (b : List Nat) (l : List Int) (r : List Nat), rdn n b = some (l, r) → by8 b → l.length = n ∧ b = ones l ++ r ∧ wds l
  | 0, b, l, r, h, _ => by
    rw [rdn] at h
    cases h
    exact ⟨rfl, rfl, fun n hn => by simp at hn⟩
  | n + 1, b, l, r, h, hb => by
    rw [rdn] at h
    cases h1 : rd b with
    | none => rw [h1] at h; cases h
    | some p =>
      obtain ⟨v, k⟩ := p
      rw [h1] at h
      obtain ⟨rest, rfl, rfl, hv⟩ := rd_some h1 hb
      simp only [List.drop_left] at h
      cases h2 : rdn n rest with
      | none => rw [h2] at h; cases h
      | some q =>
        obtain ⟨m, s⟩ := q
        rw [h2] at h
        cases h
        obtain ⟨e1, e2, e3⟩ := rdn_some n rest m r h2 fun x hx => hb x (by simp [hx])
        refine ⟨by rw [List.length_cons, e1], by rw [ones_cons, List.append_assoc, ← e2], fun x hx => ?_⟩
        rcases List.mem_cons.1 hx with rfl | hx
        · exact hv
        · exact e3 x hx
/-- The bytes of a list. -/
def put (l : List Int) : List Nat := one (l.length : Int) ++ ones l
def ok (l : List Int) : Prop := l.length ≤ 4000 ∧ wds l
def get (b : List Nat) : Option (List Int) :=
  match rd b with
  | none => none
  | some (n, k) => if n < 0 ∨ 4000 < n then none else match rdn n.toNat (b.drop k) with
    | none => none
    | some (l, r) => if r = [] then some l else none
theorem put_by8 (l : List Int) : by8 (put l) := by8.app (one_lt _) (ones_by8 l)
theorem put_pos (l : List Int) : 0 < (put l).length := by
  unfold put
  rw [List.length_append]
  have := one_pos (l.length : Int)
  omega
theorem get_app {l : List Int} (h : ok l) (rest : List Nat) : get (put l ++ rest) = if rest = [] then some l else none := by
  obtain ⟨h0, h1⟩ := h
  have hw : wd (l.length : Int) := by unfold wd; omega
  unfold get put
  rw [List.append_assoc, rd_one hw]
  simp only [List.drop_left]
  rw [if_neg (by omega), Int.toNat_natCast, rdn_ones l h1]
theorem get_put {l : List Int} (h : ok l) : get (put l) = some l := by
  have := get_app h []
  rwa [List.append_nil, if_pos rfl] at this
theorem get_more {l : List Int} (h : ok l) {r : List Nat} (hr : r ≠ []) : get (put l ++ r) = none := by rw [get_app h, if_neg hr]
theorem put_get {b : List Nat} {l : List Int} (h : get b = some l) (hb : by8 b) : put l = b ∧ ok l := by
  unfold get at h
  cases h1 : rd b with
  | none => rw [h1] at h; cases h
  | some p =>
    obtain ⟨n, k⟩ := p
    rw [h1] at h
    obtain ⟨rest, rfl, rfl, hn⟩ := rd_some h1 hb
    simp only [List.drop_left] at h
    by_cases h2 : n < 0 ∨ 4000 < n
    · rw [if_pos h2] at h; cases h
    rw [if_neg h2] at h
    cases h3 : rdn n.toNat rest with
    | none => rw [h3] at h; cases h
    | some q =>
      obtain ⟨m, s⟩ := q
      rw [h3] at h
      obtain ⟨e1, e2, e3⟩ := rdn_some n.toNat rest m s h3 fun x hx => hb x (by simp [hx])
      by_cases h4 : s = []
      · simp only [h4, if_true] at h
        cases h
        subst h4
        rw [List.append_nil] at e2
        refine ⟨?_, by omega, e3⟩
        unfold put
        rw [e2, e1, show ((n.toNat : Nat) : Int) = n by omega]
      · simp only [h4, if_false] at h
        cases h
theorem get_less {l : List Int} (h : ok l) {j : Nat} (hj : j < (put l).length) : get ((put l).take j) = none := by
  cases h1 : get ((put l).take j) with
  | none => rfl
  | some m =>
    obtain ⟨e1, e2⟩ := put_get h1 ((put_by8 l).take j)
    have h2 := get_app e2 ((put l).drop j)
    rw [e1, List.take_append_drop, get_put h, if_neg (by
      intro e
      have := congrArg List.length e
      rw [List.length_drop] at this
      simp at this
      omega)] at h2
    cases h2
theorem vb_len {u : Nat} : ∀ {k : Nat}, u < 128 ^ (k + 1) → (vb u).length ≤ k + 1 := by
  induction u using Nat.strongRecOn with
  | ind u ih =>
    intro k h
    by_cases h1 : u < 128
    · rw [vb_small h1]; simp
    · rw [vb_more h1, List.length_cons]
      cases k with
      | zero => simp at h; omega
      | succ k =>
        have h2 : u / 128 < 128 ^ (k + 1) := by
          rw [Nat.pow_succ] at h
          exact Nat.div_lt_of_lt_mul (by rw [Nat.mul_comm]; exact h)
        have := ih (u / 128) (by omega) h2
        omega
theorem one_len {n : Int} (h : wd n) : (one n).length ≤ 10 := by
  have h1 := zz_lt h
  have h2 : (128 : Nat) ^ (9 + 1) = 1180591620717411303424 := by decide
  exact vb_len (k := 9) (by omega)
theorem ones_len {l : List Int} (h : wds l) : (ones l).length ≤ 10 * l.length := by
  induction l with
  | nil => simp [ones]
  | cons n r ih =>
    have h1 := one_len (h n (by simp))
    have h2 := ih fun m hm => h m (by simp [hm])
    rw [ones_cons, List.length_append, List.length_cons]
    omega
theorem put_len {l : List Int} (h : wds l) (hl : l.length ≤ 4000) : (put l).length ≤ 10 + 10 * l.length := by
  have h1 := one_len (n := (l.length : Int)) (by unfold wd; omega)
  have h2 := ones_len h
  unfold put
  rw [List.length_append]
  omega
end Go.Proofs.Ytnnhpbkhfaaaeaa.Cd
