/- Plain facts on the bytes of integers and lists, and on frames; nothing of the program is read here. -/
import Derived.Test.YtnnhpbkhfaaaeaaDm
namespace Go.Proofs.Ytnnhpbkhfaaaeaa.Cd
open Go.Proofs.Ytnnhpbkhfaaaeaa.Dg

/-- The number of an integer, and back. -/
def zz (n : Int) : Nat := if n < 0 then 2 * (-(n + 1)).toNat + 1 else 2 * n.toNat
def un (u : Nat) : Int := if u % 2 = 1 then -((u / 2 : Nat) : Int) - 1 else ((u / 2 : Nat) : Int)
def wd (n : Int) : Prop := -9223372036854775808 ≤ n ∧ n ≤ 9223372036854775807
theorem zz_lt {n : Int} (h : wd n) : zz n < 18446744073709551616 := by
  obtain ⟨h0, h1⟩ := h
  unfold zz
  split <;> omega
theorem un_zz (n : Int) : un (zz n) = n := by
  unfold zz un
  split <;> split <;> omega
theorem zz_un (u : Nat) : zz (un u) = u := by
  unfold zz un
  split <;> split <;> omega
theorem un_wd {u : Nat} (h : u < 18446744073709551616) : wd (un u) := by
  unfold wd un
  split <;> omega
/-- Seven bits in each byte, the lowest first. -/
def vb (u : Nat) : List Nat := if u < 128 then [u] else (u % 128 + 128) :: vb (u / 128)
termination_by u
theorem vb_small {u : Nat} (h : u < 128) : vb u = [u] := by rw [vb, if_pos h]
theorem vb_more {u : Nat} (h : ¬ u < 128) : vb u = (u % 128 + 128) :: vb (u / 128) := by rw [vb, if_neg h]
theorem vb_lt (u : Nat) : ∀ x ∈ vb u, x < 256 := by
  induction u using Nat.strongRecOn with
  | ind u ih =>
    intro x hx
    by_cases h : u < 128
    · rw [vb_small h] at hx; simp at hx; omega
    · rw [vb_more h] at hx
      rcases List.mem_cons.1 hx with h1 | h1
      · omega
      · exact ih (u / 128) (by omega) x h1
theorem vb_pos (u : Nat) : 0 < (vb u).length := by
  by_cases h : u < 128
  · rw [vb_small h]; simp
  · rw [vb_more h]; simp
/-- The number with which bytes begin, and how many bytes it has. -/
def rdv : List Nat → Nat → Nat → Option (Nat × Nat)
  | [], _, _ => none
  | x :: r, i, a => if 10 ≤ i then none else if i = 9 ∧ 1 < x then none else if 128 ≤ x then rdv r (i + 1) (a + x % 128 * 128 ^ i) else if 0 < i ∧ x = 0 then none else some (a + x % 128 * 128 ^ i, i + 1)
theorem i10 {i : Nat} (h : i < 10) : i = 0 ∨ i = 1 ∨ i = 2 ∨ i = 3 ∨ i = 4 ∨ i = 5 ∨ i = 6 ∨ i = 7 ∨ i = 8 ∨ i = 9 := by omega
theorem big {u i : Nat} (h : u * 128 ^ i < 18446744073709551616) (hu : 0 < u) : i < 10 := by
  refine Classical.byContradiction fun hi => ?_
  have h1 : 128 ^ 10 ≤ 128 ^ i := Nat.pow_le_pow_right (by omega) (by omega)
  have h2 : 1 * 128 ^ i ≤ u * 128 ^ i := Nat.mul_le_mul_right _ hu
  have h3 : (128 : Nat) ^ 10 = 1180591620717411303424 := by decide
  omega
theorem rdv_vb (u : Nat) : ∀ (i a : Nat) (rest : List Nat), u * 128 ^ i < 18446744073709551616 → i < 10 → (i = 0 ∨ 0 < u) → rdv (vb u ++ rest) i a = some (a + u * 128 ^ i, i + (vb u).length) := by
  induction u using Nat.strongRecOn with
  | ind u ih =>
    intro i a rest hb hi h0
    by_cases h : u < 128
    · rw [vb_small h, List.singleton_append, rdv, if_neg (by omega), if_neg ?_, if_neg (by omega), if_neg (by omega), Nat.mod_eq_of_lt h]
      · rfl
      · rintro ⟨rfl, hx⟩
        have : (128 : Nat) ^ 9 = 9223372036854775808 := by decide
        rw [this] at hb
        omega
    · have e : u / 128 * 128 ^ (i + 1) + u % 128 * 128 ^ i = u * 128 ^ i := by
        rw [Nat.pow_succ, Nat.mul_comm (128 ^ i) 128, ← Nat.mul_assoc, ← Nat.add_mul]
        congr 1
        omega
      have hb2 : u / 128 * 128 ^ (i + 1) < 18446744073709551616 := by omega
      have hi2 := big hb2 (by omega)
      rw [vb_more h, List.cons_append, rdv, if_neg (by omega), if_neg ?_, if_pos (by omega), ih (u / 128) (by omega) (i + 1) _ rest hb2 hi2 (.inr (by omega))]
      · rw [show (u % 128 + 128) % 128 = u % 128 by omega, List.length_cons]
        congr 2
        · omega
        · omega
      · rintro ⟨rfl, _⟩
        omega
theorem rdv_some : ∀ (b : List Nat) (i a v k : Nat), rdv b i a = some (v, k) → (∀ x ∈ b, x < 256) → ∃ u rest, b = vb u ++ rest ∧ v = a + u * 128 ^ i ∧ k = i + (vb u).length ∧ (i = 0 ∨ 0 < u) ∧ u * 128 ^ i < 18446744073709551616
  | [], _, _, _, _, h, _ => by rw [rdv] at h; cases h
  | x :: r, i, a, v, k, h, hb => by
    have hx : x < 256 := hb x (by simp)
    rw [rdv] at h
    by_cases h1 : 10 ≤ i
    · rw [if_pos h1] at h; cases h
    rw [if_neg h1] at h
    by_cases h2 : i = 9 ∧ 1 < x
    · rw [if_pos h2] at h; cases h
    rw [if_neg h2] at h
    by_cases h3 : 128 ≤ x
    · rw [if_pos h3] at h
      obtain ⟨u, rest, rfl, rfl, rfl, h4, h5⟩ := rdv_some r (i + 1) _ v k h fun y hy => hb y (by simp [hy])
      have hu : 0 < u := by omega
      have hi2 := big h5 hu
      have hv : vb (u * 128 + x % 128) = x :: vb u := by
        rw [vb_more (u := u * 128 + x % 128) (by omega), show (u * 128 + x % 128) / 128 = u by omega, show (u * 128 + x % 128) % 128 + 128 = x by omega]
      have hq : (u * 128 + x % 128) * 128 ^ i = u * 128 ^ (i + 1) + x % 128 * 128 ^ i := by
        rw [Nat.pow_succ, Nat.add_mul, Nat.mul_comm (128 ^ i) 128, ← Nat.mul_assoc]
      refine ⟨u * 128 + x % 128, rest, by rw [hv]; rfl, by omega, by rw [hv, List.length_cons]; omega, .inr (by omega), ?_⟩
      have hM : 2 * 128 ^ (8 - i) * 128 ^ (i + 1) = 18446744073709551616 := by
        rw [Nat.mul_assoc, ← Nat.pow_add, show 8 - i + (i + 1) = 9 by omega]
      have hl : u < 2 * 128 ^ (8 - i) := Nat.lt_of_mul_lt_mul_right (a := 128 ^ (i + 1)) (by omega)
      have hl2 : (u + 1) * 128 ^ (i + 1) ≤ 2 * 128 ^ (8 - i) * 128 ^ (i + 1) := Nat.mul_le_mul_right _ hl
      have hl3 : (u + 1) * 128 ^ (i + 1) = u * 128 ^ (i + 1) + 128 * 128 ^ i := by rw [Nat.add_mul, Nat.one_mul, Nat.pow_succ 128 i, Nat.mul_comm (128 ^ i) 128]
      have hl4 : x % 128 * 128 ^ i ≤ 127 * 128 ^ i := Nat.mul_le_mul_right _ (by omega)
      have hl5 : 0 < 128 ^ i := Nat.pow_pos (by omega)
      omega
    · rw [if_neg h3] at h
      by_cases h4 : 0 < i ∧ x = 0
      · rw [if_pos h4] at h; cases h
      rw [if_neg h4] at h
      cases h
      refine ⟨x, r, by rw [vb_small (by omega)]; rfl, by rw [Nat.mod_eq_of_lt (by omega)], by rw [vb_small (by omega)]; rfl, by omega, ?_⟩
      by_cases h9 : i = 9
      · subst h9
        have : (128 : Nat) ^ 9 = 9223372036854775808 := by decide
        rw [this]
        omega
      · have h5 : x * 128 ^ i ≤ 127 * 128 ^ i := Nat.mul_le_mul_right _ (by omega)
        have h6 : (128 : Nat) ^ i ≤ 128 ^ 8 := Nat.pow_le_pow_right (by omega) (by omega)
        have h7 : (128 : Nat) ^ 8 = 72057594037927936 := by decide
        omega
/-- The bytes of an integer. -/
def one (n : Int) : List Nat := vb (zz n)
def rd (b : List Nat) : Option (Int × Nat) := (rdv b 0 0).map fun p => (un p.1, p.2)
theorem one_lt (n : Int) : ∀ x ∈ one n, x < 256 := vb_lt _
theorem one_pos (n : Int) : 0 < (one n).length := vb_pos _
theorem rd_one {n : Int} (h : wd n) (rest : List Nat) : rd (one n ++ rest) = some (n, (one n).length) := by
  unfold rd one
  rw [rdv_vb (zz n) 0 0 rest (by have := zz_lt h; omega) (by omega) (.inl rfl)]
  simp [un_zz]
theorem rd_some {b : List Nat} {n : Int} {k : Nat} (h : rd b = some (n, k)) (hb : ∀ x ∈ b, x < 256) : ∃ rest, b = one n ++ rest ∧ k = (one n).length ∧ wd n := by
  unfold rd at h
  rw [Option.map_eq_some_iff] at h
  obtain ⟨⟨v, j⟩, h1, h2⟩ := h
  obtain ⟨u, rest, e1, e2, e3, _, e5⟩ := rdv_some b 0 0 v j h1 hb
  simp only [Nat.pow_zero, Nat.mul_one, Nat.zero_add] at e2 e3 e5
  subst e2 e3
  cases h2
  exact ⟨rest, by unfold one; rw [zz_un]; exact e1, by unfold one; rw [zz_un], un_wd e5⟩
end Go.Proofs.Ytnnhpbkhfaaaeaa.Cd
