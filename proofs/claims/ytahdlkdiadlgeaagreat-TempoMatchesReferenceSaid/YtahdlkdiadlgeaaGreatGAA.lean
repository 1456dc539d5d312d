import Derived.Test.YtahdlkdiadlgeaaGreatRows
/- Plain facts on integers and reduced fractions; nothing of the program is read here. -/
namespace Go.Proofs.YtahdlkdiadlgeaaGreat.Rt

/-- The common divisor with the sign of d. -/
def redG (n d : Int) : Int := d.sign * (Int.gcd n d : Int)
def qN (n d : Int) : Int := n / redG n d
def qD (n d : Int) : Int := d / redG n d
def lim (n d : Int) : Bool := decide (-1000000000 ≤ n) && decide (n ≤ 1000000000) && decide (1 ≤ d) && decide (d ≤ 1000000)
def vld (n d : Int) : Bool := lim n d && decide (Int.gcd n d = 1)
def redE (n d : Int) : Int := if d = 0 then 1 else if lim (qN n d) (qD n d) = true then 0 else 3
def redN (n d : Int) : Int := if redE n d = 0 then qN n d else 0
def redD (n d : Int) : Int := if redE n d = 0 then qD n d else 0

theorem lim_iff {n d : Int} : lim n d = true ↔ -1000000000 ≤ n ∧ n ≤ 1000000000 ∧ 1 ≤ d ∧ d ≤ 1000000 := by
  unfold lim; simp [and_assoc]
theorem lim_no {n d : Int} (h : lim n d = false) : n < -1000000000 ∨ 1000000000 < n ∨ d < 1 ∨ 1000000 < d := by
  have h' : ¬ (lim n d = true) := by simp [h]
  rw [lim_iff] at h'; omega
theorem vld_iff {n d : Int} : vld n d = true ↔ lim n d = true ∧ Int.gcd n d = 1 := by
  unfold vld; simp
theorem vld_lim {n d : Int} (h : vld n d = true) : -1000000000 ≤ n ∧ n ≤ 1000000000 ∧ 1 ≤ d ∧ d ≤ 1000000 := lim_iff.1 (vld_iff.1 h).1

theorem gcd_pos {n d : Int} (h : d ≠ 0) : 0 < Int.gcd n d := Int.gcd_pos_of_ne_zero_right n h
theorem redG_ne {n d : Int} (h : d ≠ 0) : redG n d ≠ 0 := by
  unfold redG; have := gcd_pos (n := n) h
  exact Int.mul_ne_zero (by simpa [Int.sign_eq_zero_iff_zero] using h) (by omega)
theorem redG_dvd_n (n d : Int) (h : d ≠ 0) : redG n d ∣ n := by
  unfold redG
  rcases Int.lt_trichotomy d 0 with h' | h' | h'
  · rw [Int.sign_eq_neg_one_of_neg h']; simp [Int.gcd_dvd_left]
  · exact absurd h' h
  · rw [Int.sign_eq_one_of_pos h']; simp [Int.gcd_dvd_left]
theorem redG_dvd_d (n d : Int) (h : d ≠ 0) : redG n d ∣ d := by
  unfold redG
  rcases Int.lt_trichotomy d 0 with h' | h' | h'
  · rw [Int.sign_eq_neg_one_of_neg h']; simp [Int.gcd_dvd_right]
  · exact absurd h' h
  · rw [Int.sign_eq_one_of_pos h']; simp [Int.gcd_dvd_right]
theorem q_n {n d : Int} (h : d ≠ 0) : redG n d * qN n d = n := Int.mul_ediv_cancel' (redG_dvd_n n d h)
theorem q_d {n d : Int} (h : d ≠ 0) : redG n d * qD n d = d := Int.mul_ediv_cancel' (redG_dvd_d n d h)
theorem redG_sign {n d : Int} (h : d ≠ 0) : (0 < d → 0 < redG n d) ∧ (d < 0 → redG n d < 0) := by
  have := gcd_pos (n := n) h
  unfold redG
  refine ⟨fun h' => ?_, fun h' => ?_⟩
  · rw [Int.sign_eq_one_of_pos h']; omega
  · rw [Int.sign_eq_neg_one_of_neg h']; omega
theorem qD_pos {n d : Int} (h : d ≠ 0) : 0 < qD n d := by
  have h1 := q_d (n := n) h
  have h2 := redG_sign (n := n) h
  rcases Int.lt_trichotomy d 0 with h' | h' | h'
  · have := h2.2 h'
    rw [← h1] at h'
    refine Int.lt_of_not_ge fun hle => ?_
    have h3 := Int.mul_nonneg (show 0 ≤ -redG n d by omega) (show 0 ≤ -qD n d by omega)
    rw [Int.neg_mul_neg] at h3; omega
  · exact absurd h' h
  · have := h2.1 h'
    rw [← h1] at h'
    refine Int.lt_of_not_ge fun hle => ?_
    have h3 := Int.mul_nonneg (show 0 ≤ redG n d by omega) (show 0 ≤ -qD n d by omega)
    rw [Int.mul_neg] at h3; omega
theorem q_gcd {n d : Int} (h : d ≠ 0) : Int.gcd (qN n d) (qD n d) = 1 := by
  have hg := gcd_pos (n := n) h
  have h1 : Int.gcd (redG n d * qN n d) (redG n d * qD n d) = (redG n d).natAbs * Int.gcd (qN n d) (qD n d) := Int.gcd_mul_left _ _ _
  rw [q_n h, q_d h] at h1
  have h2 : (redG n d).natAbs = Int.gcd n d := by
    unfold redG; rw [Int.natAbs_mul, Int.natAbs_sign, if_neg h]; simp
  rw [h2] at h1
  have h3 : Int.gcd n d * 1 = Int.gcd n d * Int.gcd (qN n d) (qD n d) := by rw [← h1]; simp
  exact (Nat.eq_of_mul_eq_mul_left hg h3).symm

theorem cop_dvd {n d n' d' : Int} (g : Int.gcd n d = 1) (h : n * d' = n' * d) : d.natAbs ∣ d'.natAbs := by
  have h1 : d.natAbs ∣ n.natAbs * d'.natAbs := by
    rw [← Int.natAbs_mul, h, Int.natAbs_mul]; exact Nat.dvd_mul_left _ _
  have g' : Nat.Coprime d.natAbs n.natAbs := by
    show Nat.gcd _ _ = 1
    rw [Nat.gcd_comm]; exact g
  exact g'.dvd_of_dvd_mul_left h1
theorem cop_unique {n d n' d' : Int} (hd : 0 < d) (hd' : 0 < d') (g : Int.gcd n d = 1) (g' : Int.gcd n' d' = 1) (h : n * d' = n' * d) : n = n' ∧ d = d' := by
  have h1 := cop_dvd g h
  have h2 := cop_dvd g' h.symm
  have h3 := Nat.dvd_antisymm h1 h2
  have h4 : d = d' := by omega
  subst h4
  exact ⟨Int.eq_of_mul_eq_mul_right (by omega) h, rfl⟩

theorem redE_cases (n d : Int) : redE n d = 0 ∨ redE n d = 1 ∨ redE n d = 3 := by
  unfold redE; split
  · simp
  · split <;> simp
theorem redE_one {n d : Int} : redE n d = 1 ↔ d = 0 := by
  unfold redE; split
  · simp [*]
  · split <;> simp [*]
theorem red_ok {n d : Int} (h : redE n d = 0) : d ≠ 0 ∧ vld (redN n d) (redD n d) = true ∧ redN n d * d = redD n d * n ∧ redN n d = qN n d ∧ redD n d = qD n d := by
  have hd : d ≠ 0 := fun h' => by rw [redE_one.2 h'] at h; omega
  have h1 : redN n d = qN n d := by unfold redN; rw [if_pos h]
  have h2 : redD n d = qD n d := by unfold redD; rw [if_pos h]
  refine ⟨hd, ?_, ?_, h1, h2⟩
  · rw [h1, h2, vld_iff]
    refine ⟨?_, q_gcd hd⟩
    unfold redE at h; rw [if_neg hd] at h
    split at h
    · assumption
    · omega
  · rw [h1, h2]
    have a := q_n (n := n) hd
    have b := q_d (n := n) hd
    generalize qN n d = x at *
    generalize qD n d = y at *
    generalize redG n d = z at *
    subst a; rw [← b]; grind
theorem red_err {n d : Int} (h : redE n d ≠ 0) : redN n d = 0 ∧ redD n d = 0 := by
  unfold redN redD; rw [if_neg h, if_neg h]; exact ⟨rfl, rfl⟩
theorem red_of {n d x y : Int} (hd : d ≠ 0) (hv : vld x y = true) (h : x * d = y * n) : redE n d = 0 ∧ redN n d = x ∧ redD n d = y := by
  have hp := qD_pos (n := n) hd
  have hl := vld_lim hv
  have a := q_n (n := n) hd
  have b := q_d (n := n) hd
  have c := redG_ne (n := n) hd
  have e : qN n d * y = x * qD n d := by
    refine Int.eq_of_mul_eq_mul_left c ?_
    calc redG n d * (qN n d * y) = (redG n d * qN n d) * y := by grind
      _ = n * y := by rw [a]
      _ = x * d := by grind
      _ = x * (redG n d * qD n d) := by rw [b]
      _ = redG n d * (x * qD n d) := by grind
  obtain ⟨e1, e2⟩ := cop_unique hp (by omega) (q_gcd hd) (vld_iff.1 hv).2 e
  have e0 : redE n d = 0 := by unfold redE; rw [if_neg hd, if_pos (by rw [e1, e2]; exact (vld_iff.1 hv).1)]
  refine ⟨e0, ?_, ?_⟩
  · unfold redN; rw [if_pos e0, e1]
  · unfold redD; rw [if_pos e0, e2]
theorem red_congr {n d n' d' : Int} (hd : d ≠ 0) (hd' : d' ≠ 0) (h : n * d' = n' * d) : redE n d = redE n' d' ∧ redN n d = redN n' d' ∧ redD n d = redD n' d' := by
  have a := q_n (n := n) hd
  have b := q_d (n := n) hd
  have a' := q_n (n := n') hd'
  have b' := q_d (n := n') hd'
  have c := redG_ne (n := n) hd
  have c' := redG_ne (n := n') hd'
  have e : qN n d * qD n' d' = qN n' d' * qD n d := by
    refine Int.eq_of_mul_eq_mul_left c (Int.eq_of_mul_eq_mul_left c' ?_)
    calc redG n' d' * (redG n d * (qN n d * qD n' d')) = (redG n d * qN n d) * (redG n' d' * qD n' d') := by grind
      _ = n * d' := by rw [a, b']
      _ = n' * d := h
      _ = (redG n' d' * qN n' d') * (redG n d * qD n d) := by rw [a', b]
      _ = _ := by grind
  obtain ⟨e1, e2⟩ := cop_unique (qD_pos hd) (qD_pos hd') (q_gcd hd) (q_gcd hd') e
  have e0 : redE n d = redE n' d' := by unfold redE; rw [if_neg hd, if_neg hd', e1, e2]
  exact ⟨e0, by unfold redN; rw [e0, e1], by unfold redD; rw [e0, e2]⟩

/-- Euclid's algorithm as Go's remainder goes: the sign may be either one. -/
def tgcd (a b : Int) : Int := if b = 0 then a else tgcd b (a.tmod b)
termination_by b.natAbs
decreasing_by
  rw [Int.natAbs_tmod]
  exact Nat.mod_lt _ (by omega)
theorem tgcd_abs (a b : Int) : (tgcd a b).natAbs = Int.gcd a b := by
  induction a, b using tgcd.induct with
  | case1 a => unfold tgcd; simp
  | case2 a b h ih =>
    unfold tgcd
    rw [if_neg h, ih]
    show Nat.gcd _ _ = Nat.gcd _ _
    rw [Int.natAbs_tmod, Nat.gcd_comm, ← Nat.gcd_rec, Nat.gcd_comm]
end Go.Proofs.YtahdlkdiadlgeaaGreat.Rt
