/- Plain facts on what the operators make of ratios; nothing of the program is walked here. -/
import Derived.Test.YtmcjgplinacdaaaSum
import Derived.Test.YtmcjgplinacdaaaCmp
namespace Go.Proofs.Ytmcjgplinacdaaa
theorem At2.at {w : World} {b : Nat} {x y : Int} (b' : Nat) (h : At2 w b x y) (e : b = b') : At2 w b' x y := e ▸ h
theorem keep_alloc {w : World} {p : Addr} {v : Value} (h : w.cell? p = some v) (o : Obj) : (w.alloc o).cell? p = some v :=
  (World.cell?_alloc_lt w o p (World.block_lt_of_cell? _ _ h)).trans h
end Go.Proofs.Ytmcjgplinacdaaa
namespace Go.Proofs.Ytmcjgplinacdaaa.Rt

theorem add_of {a b c d N D : Int} (h1 : vld a b = true) (h2 : vld c d = true) (h3 : vld N D = true) (h : N * (b * d) = D * (a * d + c * b)) : addR a b c d = (N, D, 0) := by
  have l1 := vld_lim h1
  have l2 := vld_lim h2
  obtain ⟨e0, e1, e2⟩ := red_of (n := a * d + c * b) (d := b * d) (Int.mul_ne_zero (by omega) (by omega)) h3 h
  unfold addR opN opD opE
  rw [h1, h2]
  simp [e0, e1, e2]
theorem add_ok {a b c d N D : Int} (h : addR a b c d = (N, D, 0)) : vld a b = true ∧ vld c d = true ∧ vld N D = true ∧ (b * d) ≠ 0 ∧ N * (b * d) = D * (a * d + c * b) := by
  unfold addR opN opD opE at h
  by_cases hv : (vld a b && vld c d) = true
  · rw [hv] at h
    simp only [if_true, Prod.mk.injEq] at h
    obtain ⟨e1, e2, e0⟩ := h
    obtain ⟨g1, g2, g3, _⟩ := red_ok e0
    rw [e1, e2] at g2 g3
    simp only [Bool.and_eq_true] at hv
    exact ⟨hv.1, hv.2, g2, g1, g3⟩
  · rw [if_neg hv, if_neg hv, if_neg hv] at h
    simp at h
theorem add_err {a b c d N D E : Int} (h : addR a b c d = (N, D, E)) (hE : E ≠ 0) : N = 0 ∧ D = 0 ∧ (E = 3 ∧ vld a b = true ∧ vld c d = true ∨ E = 1 ∧ ((vld a b && vld c d) = false ∨ (b * d) = 0)) := by
  unfold addR opN opD opE at h
  by_cases hv : (vld a b && vld c d) = true
  · rw [hv] at h
    simp only [if_true, Prod.mk.injEq] at h
    obtain ⟨e1, e2, e0⟩ := h
    obtain ⟨g1, g2⟩ := red_err (n := a * d + c * b) (d := b * d) (by omega)
    simp only [Bool.and_eq_true] at hv
    refine ⟨by omega, by omega, ?_⟩
    rcases redE_cases (a * d + c * b) (b * d) with g | g | g
    · omega
    · exact Or.inr ⟨by omega, Or.inr (redE_one.1 g)⟩
    · exact Or.inl ⟨by omega, hv.1, hv.2⟩
  · have hv' : (vld a b && vld c d) = false := by simpa using hv
    rw [hv'] at h
    simp at h
    exact ⟨by omega, by omega, Or.inr ⟨by omega, Or.inl hv'⟩⟩

theorem sub_of {a b c d N D : Int} (h1 : vld a b = true) (h2 : vld c d = true) (h3 : vld N D = true) (h : N * (b * d) = D * (a * d - c * b)) : subR a b c d = (N, D, 0) := by
  have l1 := vld_lim h1
  have l2 := vld_lim h2
  obtain ⟨e0, e1, e2⟩ := red_of (n := a * d - c * b) (d := b * d) (Int.mul_ne_zero (by omega) (by omega)) h3 h
  unfold subR opN opD opE
  rw [h1, h2]
  simp [e0, e1, e2]
theorem sub_ok {a b c d N D : Int} (h : subR a b c d = (N, D, 0)) : vld a b = true ∧ vld c d = true ∧ vld N D = true ∧ (b * d) ≠ 0 ∧ N * (b * d) = D * (a * d - c * b) := by
  unfold subR opN opD opE at h
  by_cases hv : (vld a b && vld c d) = true
  · rw [hv] at h
    simp only [if_true, Prod.mk.injEq] at h
    obtain ⟨e1, e2, e0⟩ := h
    obtain ⟨g1, g2, g3, _⟩ := red_ok e0
    rw [e1, e2] at g2 g3
    simp only [Bool.and_eq_true] at hv
    exact ⟨hv.1, hv.2, g2, g1, g3⟩
  · rw [if_neg hv, if_neg hv, if_neg hv] at h
    simp at h
theorem sub_err {a b c d N D E : Int} (h : subR a b c d = (N, D, E)) (hE : E ≠ 0) : N = 0 ∧ D = 0 ∧ (E = 3 ∧ vld a b = true ∧ vld c d = true ∨ E = 1 ∧ ((vld a b && vld c d) = false ∨ (b * d) = 0)) := by
  unfold subR opN opD opE at h
  by_cases hv : (vld a b && vld c d) = true
  · rw [hv] at h
    simp only [if_true, Prod.mk.injEq] at h
    obtain ⟨e1, e2, e0⟩ := h
    obtain ⟨g1, g2⟩ := red_err (n := a * d - c * b) (d := b * d) (by omega)
    simp only [Bool.and_eq_true] at hv
    refine ⟨by omega, by omega, ?_⟩
    rcases redE_cases (a * d - c * b) (b * d) with g | g | g
    · omega
    · exact Or.inr ⟨by omega, Or.inr (redE_one.1 g)⟩
    · exact Or.inl ⟨by omega, hv.1, hv.2⟩
  · have hv' : (vld a b && vld c d) = false := by simpa using hv
    rw [hv'] at h
    simp at h
    exact ⟨by omega, by omega, Or.inr ⟨by omega, Or.inl hv'⟩⟩

theorem mul_of {a b c d N D : Int} (h1 : vld a b = true) (h2 : vld c d = true) (h3 : vld N D = true) (h : N * (b * d) = D * (a * c)) : mulR a b c d = (N, D, 0) := by
  have l1 := vld_lim h1
  have l2 := vld_lim h2
  obtain ⟨e0, e1, e2⟩ := red_of (n := a * c) (d := b * d) (Int.mul_ne_zero (by omega) (by omega)) h3 h
  unfold mulR opN opD opE
  rw [h1, h2]
  simp [e0, e1, e2]
theorem mul_ok {a b c d N D : Int} (h : mulR a b c d = (N, D, 0)) : vld a b = true ∧ vld c d = true ∧ vld N D = true ∧ (b * d) ≠ 0 ∧ N * (b * d) = D * (a * c) := by
  unfold mulR opN opD opE at h
  by_cases hv : (vld a b && vld c d) = true
  · rw [hv] at h
    simp only [if_true, Prod.mk.injEq] at h
    obtain ⟨e1, e2, e0⟩ := h
    obtain ⟨g1, g2, g3, _⟩ := red_ok e0
    rw [e1, e2] at g2 g3
    simp only [Bool.and_eq_true] at hv
    exact ⟨hv.1, hv.2, g2, g1, g3⟩
  · rw [if_neg hv, if_neg hv, if_neg hv] at h
    simp at h
theorem mul_err {a b c d N D E : Int} (h : mulR a b c d = (N, D, E)) (hE : E ≠ 0) : N = 0 ∧ D = 0 ∧ (E = 3 ∧ vld a b = true ∧ vld c d = true ∨ E = 1 ∧ ((vld a b && vld c d) = false ∨ (b * d) = 0)) := by
  unfold mulR opN opD opE at h
  by_cases hv : (vld a b && vld c d) = true
  · rw [hv] at h
    simp only [if_true, Prod.mk.injEq] at h
    obtain ⟨e1, e2, e0⟩ := h
    obtain ⟨g1, g2⟩ := red_err (n := a * c) (d := b * d) (by omega)
    simp only [Bool.and_eq_true] at hv
    refine ⟨by omega, by omega, ?_⟩
    rcases redE_cases (a * c) (b * d) with g | g | g
    · omega
    · exact Or.inr ⟨by omega, Or.inr (redE_one.1 g)⟩
    · exact Or.inl ⟨by omega, hv.1, hv.2⟩
  · have hv' : (vld a b && vld c d) = false := by simpa using hv
    rw [hv'] at h
    simp at h
    exact ⟨by omega, by omega, Or.inr ⟨by omega, Or.inl hv'⟩⟩

theorem div_of {a b c d N D : Int} (h1 : vld a b = true) (h2 : vld c d = true) (hc : c ≠ 0) (h3 : vld N D = true) (h : N * (b * c) = D * (a * d)) : divR a b c d = (N, D, 0) := by
  have l1 := vld_lim h1
  have l2 := vld_lim h2
  obtain ⟨e0, e1, e2⟩ := red_of (n := a * d) (d := b * c) (Int.mul_ne_zero (by omega) hc) h3 h
  unfold divR opN opD opE
  rw [h1, h2]
  simp [e0, e1, e2]
theorem div_ok {a b c d N D : Int} (h : divR a b c d = (N, D, 0)) : vld a b = true ∧ vld c d = true ∧ vld N D = true ∧ (b * c) ≠ 0 ∧ N * (b * c) = D * (a * d) := by
  unfold divR opN opD opE at h
  by_cases hv : (vld a b && vld c d) = true
  · rw [hv] at h
    simp only [if_true, Prod.mk.injEq] at h
    obtain ⟨e1, e2, e0⟩ := h
    obtain ⟨g1, g2, g3, _⟩ := red_ok e0
    rw [e1, e2] at g2 g3
    simp only [Bool.and_eq_true] at hv
    exact ⟨hv.1, hv.2, g2, g1, g3⟩
  · rw [if_neg hv, if_neg hv, if_neg hv] at h
    simp at h
theorem div_err {a b c d N D E : Int} (h : divR a b c d = (N, D, E)) (hE : E ≠ 0) : N = 0 ∧ D = 0 ∧ (E = 3 ∧ vld a b = true ∧ vld c d = true ∨ E = 1 ∧ ((vld a b && vld c d) = false ∨ (b * c) = 0)) := by
  unfold divR opN opD opE at h
  by_cases hv : (vld a b && vld c d) = true
  · rw [hv] at h
    simp only [if_true, Prod.mk.injEq] at h
    obtain ⟨e1, e2, e0⟩ := h
    obtain ⟨g1, g2⟩ := red_err (n := a * d) (d := b * c) (by omega)
    simp only [Bool.and_eq_true] at hv
    refine ⟨by omega, by omega, ?_⟩
    rcases redE_cases (a * d) (b * c) with g | g | g
    · omega
    · exact Or.inr ⟨by omega, Or.inr (redE_one.1 g)⟩
    · exact Or.inl ⟨by omega, hv.1, hv.2⟩
  · have hv' : (vld a b && vld c d) = false := by simpa using hv
    rw [hv'] at h
    simp at h
    exact ⟨by omega, by omega, Or.inr ⟨by omega, Or.inl hv'⟩⟩

theorem add_comm (a b c d : Int) : addR a b c d = addR c d a b := by
  unfold addR
  rw [Bool.and_comm (vld a b), Int.add_comm (a * d), Int.mul_comm b d]
theorem mul_comm (a b c d : Int) : mulR a b c d = mulR c d a b := by
  unfold mulR
  rw [Bool.and_comm (vld a b), Int.mul_comm a c, Int.mul_comm b d]

theorem add_back {a b c d x y : Int} (h : addR a b c d = (x, y, 0)) : subR x y c d = (a, b, 0) := by
  obtain ⟨h1, h2, h3, _, h4⟩ := add_ok h
  exact sub_of h3 h2 h1 (by grind)
theorem add_assoc {a b c d e f x y l m z u : Int} (hx : addR a b c d = (x, y, 0)) (hl : addR x y e f = (l, m, 0)) (hz : addR c d e f = (z, u, 0)) : addR a b z u = (l, m, 0) := by
  obtain ⟨h1, h2, h3, _, h4⟩ := add_ok hx
  obtain ⟨_, g2, g3, _, g4⟩ := add_ok hl
  obtain ⟨_, _, k3, _, k4⟩ := add_ok hz
  have l1 := vld_lim h1
  have l2 := vld_lim h2
  have l3 := vld_lim h3
  have l4 := vld_lim g2
  refine add_of h1 k3 g3 ?_
  have p : y * f * d ≠ 0 := Int.mul_ne_zero (Int.mul_ne_zero (by omega) (by omega)) (by omega)
  refine Int.eq_of_mul_eq_mul_right p ?_
  calc l * (b * u) * (y * f * d) = (l * (y * f)) * (b * u * d) := by grind
    _ = (m * (x * f + e * y)) * (b * u * d) := by rw [g4]
    _ = m * u * ((x * (b * d)) * f + e * y * b * d) := by grind
    _ = m * u * ((y * (a * d + c * b)) * f + e * y * b * d) := by rw [h4]
    _ = m * y * (a * u * f * d + b * (u * (c * f + e * d))) := by grind
    _ = m * y * (a * u * f * d + b * (z * (d * f))) := by rw [k4]
    _ = m * (a * u + z * b) * (y * f * d) := by grind

theorem v01 : vld 0 1 = true := by decide +kernel
theorem v11 : vld 1 1 = true := by decide +kernel
theorem add_zero {a b : Int} (h : vld a b = true) : addR 0 1 a b = (a, b, 0) := add_of v01 h h (by grind)
theorem add_bad {a b c d : Int} (h : (vld a b && vld c d) = false) : addR a b c d = (0, 0, 1) := by
  unfold addR opN opD opE; rw [h]; rfl
/-- The sum of three is that of the first two, and the third. -/
theorem sum_three {a b c d e f x y l m h : Int} (hx : addR a b c d = (x, y, 0)) (hl : addR x y e f = (l, m, h)) : sumR [(a, b), (c, d), (e, f)] = (l, m, h) := by
  obtain ⟨h1, h2, h3, _, _⟩ := add_ok hx
  unfold sumR
  by_cases he : vld e f = true
  · simp only [List.length_cons, List.length_nil, List.all_cons, List.all_nil, h1, h2, he]
    simp only [fold, add_zero h1, hx, hl]
    simp
    by_cases g : h = 0
    · rw [if_pos g, g]
    · have := add_err hl g
      rw [if_neg g, this.1, this.2.1]
  · have he' : vld e f = false := by simpa using he
    have : addR x y e f = (0, 0, 1) := add_bad (by rw [he']; simp)
    rw [this] at hl
    simp only [List.length_cons, List.length_nil, List.all_cons, List.all_nil, h1, h2, he']
    simpa using hl

theorem mul_one {a b : Int} (h : vld a b = true) : mulR a b 1 1 = (a, b, 0) := mul_of h v11 h (by grind)
theorem mul_zero {a b : Int} (h : vld a b = true) : mulR a b 0 1 = (0, 1, 0) := mul_of h v01 v01 (by grind)
theorem mul_back {a b c d x y : Int} (hc : c ≠ 0) (h : mulR a b c d = (x, y, 0)) : divR x y c d = (a, b, 0) := by
  obtain ⟨h1, h2, h3, _, h4⟩ := mul_ok h
  exact div_of h3 h2 hc h1 (by grind)
theorem mul_add {a b c d e f x y s t z u : Int} (hx : mulR a b c d = (x, y, 0)) (hs : addR c d e f = (s, t, 0)) (hz : mulR a b e f = (z, u, 0)) : mulR a b s t = addR x y z u := by
  obtain ⟨h1, h2, h3, _, h4⟩ := mul_ok hx
  obtain ⟨_, g2, g3, _, g4⟩ := add_ok hs
  obtain ⟨_, _, k3, _, k4⟩ := mul_ok hz
  have l1 := vld_lim h1
  have l2 := vld_lim h2
  have l3 := vld_lim h3
  have l4 := vld_lim g2
  have l5 := vld_lim g3
  have l6 := vld_lim k3
  have e : (a * s) * (y * u) = (x * u + z * y) * (b * t) := by
    have p : d * f ≠ 0 := Int.mul_ne_zero (by omega) (by omega)
    refine Int.eq_of_mul_eq_mul_right p ?_
    calc a * s * (y * u) * (d * f) = a * (y * u) * (s * (d * f)) := by grind
      _ = a * (y * u) * (t * (c * f + e * d)) := by rw [g4]
      _ = t * (u * f * (y * (a * c)) + y * d * (u * (a * e))) := by grind
      _ = t * (u * f * (x * (b * d)) + y * d * (z * (b * f))) := by rw [h4, k4]
      _ = (x * u + z * y) * (b * t) * (d * f) := by grind
  obtain ⟨r0, r1, r2⟩ := red_congr (n := a * s) (d := b * t) (n' := x * u + z * y) (d' := y * u) (Int.mul_ne_zero (by omega) (by omega)) (Int.mul_ne_zero (by omega) (by omega)) e
  unfold mulR addR opN opD opE
  rw [h1, g3, h3, k3]
  simp only [Bool.and_self, if_true]
  rw [r0, r1, r2]

theorem cmp_ok {a b c d : Int} (h1 : vld a b = true) (h2 : vld c d = true) : cmpR a b c d = (cmpI (a * d) (c * b), 0) := by
  unfold cmpR cmpV cmpE; rw [h1, h2]; rfl
theorem cmpI_neg (x y : Int) : cmpI y x = -cmpI x y := by unfold cmpI; split <;> split <;> omega
theorem cmpI_in (x y : Int) : -1 ≤ cmpI x y ∧ cmpI x y ≤ 1 := by unfold cmpI; split <;> (try split) <;> omega
theorem cmpI_lt (x y : Int) : cmpI x y < 0 ↔ x < y := by unfold cmpI; split <;> (try split) <;> omega
theorem cmpI_gt (x y : Int) : 0 < cmpI x y ↔ y < x := by unfold cmpI; split <;> (try split) <;> omega
theorem cmpI_eq (x y : Int) : cmpI x y = 0 ↔ x = y := by unfold cmpI; split <;> (try split) <;> omega
theorem cmp_same {a b c d : Int} (h1 : vld a b = true) (h2 : vld c d = true) : cmpI (a * d) (c * b) = 0 ↔ a = c ∧ b = d := by
  have l1 := vld_lim h1
  have l2 := vld_lim h2
  rw [cmpI_eq]
  exact ⟨fun h => cop_unique (by omega) (by omega) (vld_iff.1 h1).2 (vld_iff.1 h2).2 h, fun ⟨h, h'⟩ => by rw [h, h']⟩
theorem le_trans' {a b c d e f : Int} (hb : 0 < b) (hd : 0 < d) (hf : 0 < f) (h1 : a * d ≤ c * b) (h2 : c * f ≤ e * d) : a * f ≤ e * b := by
  have g1 : a * d * f ≤ c * b * f := Int.mul_le_mul_of_nonneg_right h1 (by omega)
  have g2 : c * f * b ≤ e * d * b := Int.mul_le_mul_of_nonneg_right h2 (by omega)
  have g3 : a * f * d ≤ e * b * d := by
    have e1 : a * f * d = a * d * f := by grind
    have e2 : c * b * f = c * f * b := by grind
    have e3 : e * b * d = e * d * b := by grind
    omega
  exact Int.le_of_mul_le_mul_right g3 hd
theorem lt_trans' {a b c d e f : Int} (hb : 0 < b) (hd : 0 < d) (hf : 0 < f) (h1 : a * d ≤ c * b) (h2 : c * f ≤ e * d) (h3 : a * d < c * b ∨ c * f < e * d) : a * f < e * b := by
  have g1 : a * d * f ≤ c * b * f := Int.mul_le_mul_of_nonneg_right h1 (by omega)
  have g2 : c * f * b ≤ e * d * b := Int.mul_le_mul_of_nonneg_right h2 (by omega)
  have e1 : a * f * d = a * d * f := by grind
  have e2 : c * b * f = c * f * b := by grind
  have e3 : e * b * d = e * d * b := by grind
  have g3 : a * f * d < e * b * d := by
    rcases h3 with h | h
    · have := Int.mul_lt_mul_of_pos_right h hf; omega
    · have := Int.mul_lt_mul_of_pos_right h hb; omega
  exact Int.lt_of_mul_lt_mul_right g3 (by omega)
/-- The sign of a difference. -/
theorem sub_sign {a b c d x y : Int} (h : subR a b c d = (x, y, 0)) : (x < 0 ↔ a * d < c * b) ∧ (0 < x ↔ c * b < a * d) := by
  obtain ⟨h1, h2, h3, _, h4⟩ := sub_ok h
  have l1 := vld_lim h1
  have l2 := vld_lim h2
  have l3 := vld_lim h3
  have p : 0 < b * d := Int.mul_pos (by omega) (by omega)
  have q : 0 < y := by omega
  generalize b * d = P at *
  generalize a * d = A at *
  generalize c * b = C at *
  have s1 : x < 0 ↔ A - C < 0 := by
    constructor
    · intro hx
      have : x * P < 0 := Int.mul_neg_of_neg_of_pos hx p
      refine Int.lt_of_not_ge fun hge => ?_
      have := Int.mul_nonneg (show 0 ≤ y by omega) hge
      omega
    · intro hx
      have : y * (A - C) < 0 := Int.mul_neg_of_pos_of_neg q hx
      refine Int.lt_of_not_ge fun hge => ?_
      have := Int.mul_nonneg hge (show 0 ≤ P by omega)
      omega
  have s2 : 0 < x ↔ 0 < A - C := by
    constructor
    · intro hx
      have : 0 < x * P := Int.mul_pos hx p
      refine Int.lt_of_not_ge fun hge => ?_
      have := Int.mul_nonneg (show 0 ≤ y by omega) (show 0 ≤ -(A - C) by omega)
      rw [Int.mul_neg] at this
      omega
    · intro hx
      have : 0 < y * (A - C) := Int.mul_pos q hx
      refine Int.lt_of_not_ge fun hge => ?_
      have := Int.mul_nonneg (show 0 ≤ -x by omega) (show 0 ≤ P by omega)
      rw [Int.neg_mul] at this
      omega
  exact ⟨by rw [s1]; omega, by rw [s2]; omega⟩

theorem make_ok {n d : Int} (ht : takes n d = true) : makeR n d = (redN n d, redD n d, redE n d) := by
  unfold makeR opN opD opE; rw [ht]; rfl
theorem make_own {a b : Int} (h : vld a b = true) : makeR a b = (a, b, 0) := by
  have l := vld_lim h
  obtain ⟨e0, e1, e2⟩ := red_of (n := a) (d := b) (by omega) h (Int.mul_comm a b)
  rw [make_ok (takes_iff.2 (by omega)), e0, e1, e2]
end Go.Proofs.Ytmcjgplinacdaaa.Rt
