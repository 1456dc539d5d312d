/- What ratio makes of durations: sums, which one is less. -/
import Derived.Test.YthamkigdpgajaaaMm
import Derived.Test.YthamkigdpgajaaaRadd
import Derived.Test.YthamkigdpgajaaaRcmp
namespace Go.Proofs.Ythamkigdpgajaaa.Mt

theorem o_mul (n : Nat) : oN n * 1680 = (n : Int) * oD n := by
  have hg : 0 < Nat.gcd n 1680 := Nat.gcd_pos_of_pos_right _ (by omega)
  obtain ⟨a, ha⟩ := Nat.gcd_dvd_left n 1680
  obtain ⟨b, hb⟩ := Nat.gcd_dvd_right n 1680
  unfold oN oD
  rw [Nat.div_eq_of_eq_mul_right hg ha, Nat.div_eq_of_eq_mul_right hg hb]
  generalize Nat.gcd n 1680 = g at *
  have h1 : (n : Int) = (g : Int) * (a : Int) := by rw [← Int.natCast_mul, ← ha]
  have h2 : (1680 : Int) = (g : Int) * (b : Int) := by rw [← Int.natCast_mul, ← hb]; rfl
  rw [h1, h2]
  rw [← Int.mul_assoc, Int.mul_comm (a : Int) (g : Int)]
theorem oD_pos (n : Nat) : 1 ≤ oD n ∧ oD n ≤ 1680 := by
  have hg : 0 < Nat.gcd n 1680 := Nat.gcd_pos_of_pos_right _ (by omega)
  have hl : Nat.gcd n 1680 ≤ 1680 := Nat.gcd_le_right _ (by omega)
  unfold oD
  have h1 : 0 < 1680 / Nat.gcd n 1680 := Nat.div_pos hl hg
  have h2 := Nat.div_le_self 1680 (Nat.gcd n 1680)
  omega
theorem oN_le (n : Nat) : 0 ≤ oN n ∧ oN n ≤ (n : Int) := by
  unfold oN
  exact ⟨Int.natCast_nonneg _, Int.ofNat_le.2 (Nat.div_le_self ..)⟩
theorem o_vld {n : Nat} (h : n ≤ 1000000000) : Rt.vld (oN n) (oD n) = true := by
  have ht := tk_of h
  have hne : tk (oN n) (oD n) ≠ -1 := by rw [ht]; omega
  rcases tk_cases (oN n) (oD n) with h1 | ⟨_, _, _, _, h5, _⟩
  · exact absurd h1 hne
  · obtain ⟨d1, d2⟩ := oD_pos n
    obtain ⟨n1, n2⟩ := oN_le n
    exact Rt.vld_iff.2 ⟨Rt.lim_iff.2 ⟨by omega, by omega, d1, by omega⟩, h5⟩
/-- The sum of durations. -/
theorem add_of {a b : Nat} (h : a + b ≤ 1000000000) : Rt.addR (oN a) (oD a) (oN b) (oD b) = (oN (a + b), oD (a + b), 0) := by
  obtain ⟨da, _⟩ := oD_pos a
  obtain ⟨db, _⟩ := oD_pos b
  have hd : oD a * oD b ≠ 0 := by
    have := Int.mul_pos (show 0 < oD a by omega) (show 0 < oD b by omega)
    omega
  have ea := o_mul a
  have eb := o_mul b
  have ec := o_mul (a + b)
  have key : oN (a + b) * (oD a * oD b) = oD (a + b) * (oN a * oD b + oN b * oD a) := by
    have h1 : oN (a + b) * (oD a * oD b) * 1680 = oD (a + b) * (oN a * oD b + oN b * oD a) * 1680 := by
      have e1 : oN (a + b) * (oD a * oD b) * 1680 = oN (a + b) * 1680 * (oD a * oD b) := by rw [Int.mul_right_comm]
      have e2 : oD (a + b) * (oN a * oD b + oN b * oD a) * 1680 = oD (a + b) * (oN a * 1680 * oD b + oN b * 1680 * oD a) := by
        rw [Int.mul_assoc, Int.add_mul, Int.mul_right_comm (oN a), Int.mul_right_comm (oN b)]
      rw [e1, e2, ea, eb, ec, Int.natCast_add]
      generalize oD (a + b) = z
      generalize oD a = x
      generalize oD b = y
      generalize (a : Int) = p
      generalize (b : Int) = q
      rw [show p * x * y + q * y * x = (p + q) * (x * y) by rw [Int.add_mul, Int.mul_assoc, Int.mul_assoc q, Int.mul_comm y x]]
      rw [Int.mul_comm (p + q) z, Int.mul_assoc]
    exact Int.eq_of_mul_eq_mul_right (by omega) h1
  obtain ⟨r1, r2, r3⟩ := Rt.red_of hd (o_vld h) key
  unfold Rt.addR
  rw [o_vld (show a ≤ 1000000000 by omega), o_vld (show b ≤ 1000000000 by omega)]
  obtain ⟨p1, p2, p3⟩ := Rt.op_yes (oN a * oD b + oN b * oD a) (oD a * oD b)
  simp only [Bool.and_self]
  rw [p1, p2, p3, r1, r2, r3]
/-- Which of two durations is less. -/
theorem cmp_of {a b : Nat} (ha : a ≤ 1000000000) (hb : b ≤ 1000000000) : Rt.cmpR (oN a) (oD a) (oN b) (oD b) = (Rt.cmpI a b, 0) := by
  obtain ⟨da, _⟩ := oD_pos a
  obtain ⟨db, _⟩ := oD_pos b
  have hp : 0 < oD a * oD b := Int.mul_pos (by omega) (by omega)
  have e1 : oN a * oD b * 1680 = (a : Int) * (oD a * oD b) := by rw [Int.mul_right_comm, o_mul a, Int.mul_assoc]
  have e2 : oN b * oD a * 1680 = (b : Int) * (oD a * oD b) := by rw [Int.mul_right_comm, o_mul b, Int.mul_assoc, Int.mul_comm (oD b)]
  have l1 : oN a * oD b < oN b * oD a ↔ (a : Int) < (b : Int) := by
    constructor
    · intro h
      have : (a : Int) * (oD a * oD b) < (b : Int) * (oD a * oD b) := by omega
      exact Int.lt_of_mul_lt_mul_right this (by omega)
    · intro h
      have := Int.mul_lt_mul_of_pos_right h hp
      omega
  have l2 : oN b * oD a < oN a * oD b ↔ (b : Int) < (a : Int) := by
    constructor
    · intro h
      have : (b : Int) * (oD a * oD b) < (a : Int) * (oD a * oD b) := by omega
      exact Int.lt_of_mul_lt_mul_right this (by omega)
    · intro h
      have := Int.mul_lt_mul_of_pos_right h hp
      omega
  unfold Rt.cmpR
  rw [o_vld ha, o_vld hb]
  simp only [Bool.and_self]
  unfold Rt.cmpV Rt.cmpE Rt.cmpI
  simp only [if_true, l1, l2]
end Go.Proofs.Ythamkigdpgajaaa.Mt
