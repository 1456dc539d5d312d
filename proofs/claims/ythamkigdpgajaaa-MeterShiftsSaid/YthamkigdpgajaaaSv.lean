/- Mathematics of shifts: durations and their opposites, and sums of them. -/
import Derived.Test.YthamkigdpgajaaaNl
namespace Go.Proofs.Ythamkigdpgajaaa.Mt

theorem vld_neg (n d : Int) : Rt.vld (-n) d = Rt.vld n d := by
  rw [Bool.eq_iff_iff, Rt.vld_iff, Rt.vld_iff, Rt.lim_iff, Rt.lim_iff, Int.neg_gcd]
  constructor <;> rintro ⟨⟨h1, h2, h3, h4⟩, h5⟩ <;> exact ⟨⟨by omega, by omega, h3, h4⟩, h5⟩
theorem byT_some (n d : Int) : (byT n d).isSome = (Rt.vld n d && decide (1680 % d = 0)) := by
  have h1 := tk_dur n d
  have h2 := tk_dur (-n) d
  rw [vld_neg] at h2
  unfold byT
  by_cases a : 0 ≤ tk n d
  · rw [if_pos a]
    rw [decide_eq_true a] at h1
    cases hv : Rt.vld n d <;> cases hm : decide (1680 % d = 0) <;> rw [hv, hm] at h1 <;> simp at h1 ⊢
  · rw [if_neg a]
    rw [decide_eq_false a] at h1
    by_cases b : 0 ≤ tk (-n) d
    · rw [if_pos b]
      rw [decide_eq_true b] at h2
      cases hv : Rt.vld n d <;> cases hm : decide (1680 % d = 0) <;> rw [hv, hm] at h2 <;> simp at h2 ⊢
    · rw [if_neg b]
      rw [decide_eq_false b] at h2
      cases hv : Rt.vld n d <;> cases hm : decide (1680 % d = 0) <;> rw [hv, hm] at h1 h2 <;> simp at h1 h2 ⊢
      omega
theorem byT_neg {n d : Int} (h : (byT n d).isSome = true) : (byT (-n) d).isSome = true ∧ (byT (-n) d).getD 0 = -(byT n d).getD 0 := by
  have h2 : (byT (-n) d).isSome = true := by rw [byT_some, vld_neg, ← byT_some]; exact h
  refine ⟨h2, ?_⟩
  rw [(byT_units h).2.2.2.1, (byT_units h2).2.2.2.1, Int.neg_mul]
theorem dvd_cop {n d m : Int} (hg : Int.gcd n d = 1) (h : d ∣ m * n) : d ∣ m := by
  have h1 : d.natAbs ∣ m.natAbs * n.natAbs := by rw [← Int.natAbs_mul]; exact Int.natAbs_dvd_natAbs.2 h
  have h2 : Nat.Coprime d.natAbs n.natAbs := by show Nat.gcd _ _ = 1; rw [Nat.gcd_comm]; exact hg
  exact Int.natAbs_dvd_natAbs.1 (h2.dvd_of_dvd_mul_right h1)
/-- The sum of a duration, or the opposite of one, with a ratio. -/
theorem byT_add {x y u v C D : Int} (ha : (byT x y).isSome = true) (h : Rt.addR x y u v = (C, D, 0)) : (byT C D).isSome = (byT u v).isSome ∧ ((byT u v).isSome = true → (byT C D).getD 0 = (byT x y).getD 0 + (byT u v).getD 0) := by
  unfold Rt.addR at h
  cases hv : Rt.vld x y && Rt.vld u v with
  | false =>
    rw [hv] at h
    obtain ⟨e1, e2, e3⟩ := Rt.op_no (x * v + u * y) (y * v)
    rw [e1, e2, e3] at h
    simp at h
  | true =>
    rw [hv] at h
    obtain ⟨e1, e2, e3⟩ := Rt.op_yes (x * v + u * y) (y * v)
    rw [e1, e2, e3] at h
    simp only [Prod.mk.injEq] at h
    obtain ⟨hC, hD, hE⟩ := h
    rw [Bool.and_eq_true] at hv
    obtain ⟨_, hvl, hk, _, _⟩ := Rt.red_ok hE
    rw [hC, hD] at hvl
    rw [hC, hD] at hk
    obtain ⟨_, _, y1, _⟩ := Rt.vld_lim hv.1
    obtain ⟨_, _, v1, _⟩ := Rt.vld_lim hv.2
    obtain ⟨_, _, d1, _⟩ := Rt.vld_lim hvl
    have gu := (Rt.vld_iff.1 hv.2).2
    have gC := (Rt.vld_iff.1 hvl).2
    have ha2 := ha
    rw [byT_some, Bool.and_eq_true, decide_eq_true_eq] at ha2
    obtain ⟨e, he⟩ := Int.dvd_of_emod_eq_zero ha2.2
    have hiff : 1680 % D = 0 ↔ 1680 % v = 0 := by
      constructor
      · intro hd
        obtain ⟨g, hg⟩ := Int.dvd_of_emod_eq_zero hd
        refine Int.emod_eq_zero_of_dvd (dvd_cop gu ⟨C * g - x * e, ?_⟩)
        have h1 : C * (y * v) * (g * e) = D * (x * v + u * y) * (g * e) := by rw [hk]
        have h3 : (1680 : Int) * (C * g * v) = 1680 * (1680 * u + x * e * v) := by grind
        have h4 : C * g * v = 1680 * u + x * e * v := by omega
        grind
      · intro hd
        obtain ⟨f, hf⟩ := Int.dvd_of_emod_eq_zero hd
        refine Int.emod_eq_zero_of_dvd (dvd_cop gC ⟨x * e + u * f, ?_⟩)
        have h1 : C * (y * v) * (e * f) = D * (x * v + u * y) * (e * f) := by rw [hk]
        have h3 : (1680 : Int) * (1680 * C) = 1680 * (D * (x * e + u * f)) := by grind
        omega
    refine ⟨?_, fun hb => ?_⟩
    · rw [byT_some, byT_some, hvl, hv.2, Bool.true_and, Bool.true_and]
      exact decide_eq_decide.2 hiff
    · have hb2 := hb
      rw [byT_some, Bool.and_eq_true, decide_eq_true_eq] at hb2
      have hc : (byT C D).isSome = true := by rw [byT_some, hvl, Bool.true_and]; exact decide_eq_true (hiff.2 hb2.2)
      obtain ⟨f, hf⟩ := Int.dvd_of_emod_eq_zero hb2.2
      obtain ⟨g, hg⟩ := Int.dvd_of_emod_eq_zero (hiff.2 hb2.2)
      rw [(byT_units ha).2.2.2.1, (byT_units hb).2.2.2.1, (byT_units hc).2.2.2.1]
      have q1 : (1680 : Int) / y = e := by rw [he]; exact Int.mul_ediv_cancel_left _ (by omega)
      have q2 : (1680 : Int) / v = f := by rw [hf]; exact Int.mul_ediv_cancel_left _ (by omega)
      have q3 : (1680 : Int) / D = g := by rw [hg]; exact Int.mul_ediv_cancel_left _ (by omega)
      rw [q1, q2, q3]
      have h1 : C * (y * v) * (e * f) = D * (x * v + u * y) * (e * f) := by rw [hk]
      have h3 : (1680 : Int) * (1680 * C) = 1680 * (D * (x * e + u * f)) := by grind
      have h4 : 1680 * C = D * (x * e + u * f) := by omega
      rw [hg, Int.mul_assoc, Int.mul_comm g C] at h4
      exact Int.eq_of_mul_eq_mul_left (by omega) h4
end Go.Proofs.Ythamkigdpgajaaa.Mt
