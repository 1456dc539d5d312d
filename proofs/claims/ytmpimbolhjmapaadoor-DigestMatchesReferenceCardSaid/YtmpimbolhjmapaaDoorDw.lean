/- Plain facts that the laws on digests ask for. -/
import Derived.Test.YtmpimbolhjmapaaDoorDn
namespace Go.Proofs.YtmpimbolhjmapaaDoor
namespace Dg

theorem set_parts {α : Type} {l : List α} {k : Nat} (h : k < l.length) (y : α) : l = l.take k ++ l[k] :: l.drop (k + 1) ∧ l.set k y = l.take k ++ y :: l.drop (k + 1) := by
  constructor
  · rw [← List.drop_eq_getElem_cons h, List.take_append_drop]
  · rw [List.set_eq_take_append_cons_drop, if_pos h]
/-- One byte turned: the digest is the same only if it is the same byte. -/
theorem sum_set {b : List Nat} {k y : Nat} (h : k < b.length) (hb : ∀ x ∈ b, x < 256) (hy : y < 256) : (sum b = sum (b.set k y)) ↔ y = atN b k := by
  obtain ⟨h1, h2⟩ := set_parts h y
  rw [atN_eq h]
  constructor
  · intro e
    rw [h2] at e
    conv at e => lhs; rw [h1]
    exact (fnv_place (d := beg) (by decide) (hb _ (List.getElem_mem h)) hy (fun z hz => hb z (List.mem_of_mem_drop hz)) e).symm
  · rintro rfl
    rw [List.set_getElem_self]
theorem xor_self_iff {x y : Nat} : x ^^^ y = x ↔ y = 0 := by
  constructor
  · intro h
    exact xor_left (a := x) (by rw [h, Nat.xor_zero])
  · rintro rfl
    exact Nat.xor_zero x
theorem xor_byte {x y : Nat} (hx : x < 256) (hy : y < 256) : x ^^^ y < 256 := Nat.xor_lt_two_pow (n := 8) hx hy
/-- The same bytes behind both. -/
theorem behind {a b m : List Nat} (hm : ∀ x ∈ m, x < 256) : (sum a = sum b) ↔ (sum (a ++ m) = sum (b ++ m)) := by
  rw [sum_app, sum_app]
  exact ⟨fun h => by rw [h], fun h => fnv_inj (sum_lt a) (sum_lt b) hm h⟩
/-- The integers with the last digit of one turned; none: there are none, or it is negative, or too great. -/
def tn (l : List Int) (which t : Nat) : Option (List Int) :=
  if l.length = 0 then none
  else if atI l (which % l.length) < 0 ∨ 1000000000000 < atI l (which % l.length) then none
  else some (l.set (which % l.length) (atI l (which % l.length) - atI l (which % l.length) % 10 + (atI l (which % l.length) % 10 + 1 + ((t % 9 : Nat) : Int)) % 10))
theorem tn_parts {l m : List Int} {which t : Nat} (h : tn l which t = some m) : ∃ a b n k, l = a ++ n :: b ∧ m = a ++ (n - n % 10 + k) :: b ∧ 0 ≤ n ∧ n ≤ 1000000000000 ∧ 0 ≤ k ∧ k < 10 ∧ k ≠ n % 10 := by
  unfold tn at h
  split at h
  · cases h
  · split at h
    · cases h
    · rename_i h0 h1
      have hk : which % l.length < l.length := Nat.mod_lt _ (by omega)
      generalize which % l.length = k at *
      generalize hn : atI l k = n at *
      obtain ⟨p1, p2⟩ := set_parts hk (n - n % 10 + (n % 10 + 1 + ((t % 9 : Nat) : Int)) % 10)
      rw [← atI_eq hk, hn] at p1
      refine ⟨l.take k, l.drop (k + 1), n, (n % 10 + 1 + ((t % 9 : Nat) : Int)) % 10, p1, ?_, by omega, by omega, by omega, by omega, by omega⟩
      cases h
      exact p2
theorem tn_len {l m : List Int} {which t : Nat} (h : tn l which t = some m) : m.length = l.length := by
  obtain ⟨a, b, n, k, rfl, rfl, _⟩ := tn_parts h
  simp
theorem tn_word {l m : List Int} {which t : Nat} (h : tn l which t = some m) (hw : ∀ n ∈ l, -9223372036854775808 ≤ n ∧ n ≤ 9223372036854775807) : ∀ n ∈ m, -9223372036854775808 ≤ n ∧ n ≤ 9223372036854775807 := by
  obtain ⟨a, b, n, k, rfl, rfl, h0, h1, k0, k1, _⟩ := tn_parts h
  intro x hx
  rcases List.mem_append.1 hx with hx | hx
  · exact hw x (List.mem_append_left _ hx)
  · rcases List.mem_cons.1 hx with rfl | hx
    · omega
    · exact hw x (List.mem_append_right _ (List.mem_cons_of_mem _ hx))
/-- One last digit turned: another digest. -/
theorem next_tn {d : Nat} {l m : List Int} {which t : Nat} (h : tn l which t = some m) : next d l ≠ next d m := by
  obtain ⟨a, b, n, k, rfl, rfl, h0, _, k0, k1, hk⟩ := tn_parts h
  exact next_turned h0 k0 k1 hk
theorem chain_tn {c : List (List Int)} {l m : List Int} {which t : Nat} (h : tn l which t = some m) : chain (c ++ [l]) ≠ chain (c ++ [m]) := by
  rw [chain_last, chain_last, tn_len h]
  obtain ⟨a, b, n, k, rfl, rfl, h0, _, k0, k1, hk⟩ := tn_parts h
  generalize (((a ++ n :: b).length : Nat) : Int) = q
  exact next_turned (a := q :: a) h0 k0 k1 hk
/-- The same lists behind the same chain. -/
theorem chain_behind {a b m : List (List Int)} (h : chain a = chain b) : chain (a ++ m) = chain (b ++ m) := by rw [chain_app, chain_app, h]
theorem few_parts {l : List (List Int)} (h : few l = true) : l.length ≤ 40 ∧ ∀ g ∈ l, g.length ≤ 40 := by
  unfold few at h
  rw [Bool.and_eq_true, List.all_eq_true] at h
  exact ⟨of_decide_eq_true h.2, fun g hg => of_decide_eq_true (h.1 g hg)⟩
end Dg
end Go.Proofs.YtmpimbolhjmapaaDoor
