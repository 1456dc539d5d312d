/- Mathematics of bars: 1680ths, before, where. -/
import Derived.Test.YthamkigdpgajaaaHelp
namespace Go.Proofs.Ythamkigdpgajaaa.Mt

/-- How many 1680ths a duration is; -1: it is none. -/
def tk (n d : Int) : Int := if d < 1 ∨ 1680 % d ≠ 0 ∨ n < 0 ∨ 1000000000 < n ∨ Int.gcd n d ≠ 1 then -1 else n * (1680 / d)
def oN (n : Nat) : Int := ((n / Nat.gcd n 1680 : Nat) : Int)
def oD (n : Nat) : Int := ((1680 / Nat.gcd n 1680 : Nat) : Int)
theorem tk_cases (n d : Int) : tk n d = -1 ∨ (1 ≤ d ∧ 1680 % d = 0 ∧ 0 ≤ n ∧ n ≤ 1000000000 ∧ Int.gcd n d = 1 ∧ tk n d = n * (1680 / d)) := by
  unfold tk
  split
  · exact .inl rfl
  · rename_i h
    simp only [not_or, Decidable.not_not] at h
    exact .inr ⟨by omega, h.2.1, by omega, by omega, h.2.2.2.2, rfl⟩
theorem tk_parts {n d : Int} (h : tk n d ≠ -1) : ∃ a b k : Nat, n = a ∧ d = b ∧ 1680 = b * k ∧ 0 < b ∧ 0 < k ∧ a ≤ 1000000000 ∧ Nat.gcd a b = 1 ∧ tk n d = ((a * k : Nat) : Int) := by
  rcases tk_cases n d with h1 | ⟨h1, h2, h3, h4, h5, h6⟩
  · exact absurd h1 h
  · obtain ⟨a, rfl⟩ := Int.eq_ofNat_of_zero_le h3
    obtain ⟨b, rfl⟩ := Int.eq_ofNat_of_zero_le (show 0 ≤ d by omega)
    have hb : 0 < b := by omega
    have hdv : (b : Int) ∣ 1680 := Int.dvd_of_emod_eq_zero h2
    have hdv2 : b ∣ 1680 := Int.natCast_dvd_natCast.1 (show ((b : Nat) : Int) ∣ ((1680 : Nat) : Int) from hdv)
    obtain ⟨k, hk⟩ := hdv2
    have hkp : 0 < k := by
      rcases Nat.eq_zero_or_pos k with h0 | h0
      · subst h0; omega
      · exact h0
    refine ⟨a, b, k, rfl, rfl, hk, hb, hkp, by omega, by simpa [Int.gcd] using h5, ?_⟩
    have hq : (1680 : Int) / (b : Int) = (k : Int) := by
      have h7 : (1680 : Int) = (b : Int) * (k : Int) := by rw [← Int.natCast_mul, ← hk]; rfl
      rw [h7]
      exact Int.mul_ediv_cancel_left _ (by omega)
    rw [h6, hq]
    simp
theorem tk_ge (n d : Int) : -1 ≤ tk n d := by
  by_cases h : tk n d = -1
  · omega
  · obtain ⟨a, b, k, _, _, _, _, _, _, _, h8⟩ := tk_parts h
    omega
theorem tk_le (n d : Int) : tk n d ≤ 1680000000000 := by
  by_cases h : tk n d = -1
  · omega
  · obtain ⟨a, b, k, _, _, h3, h4, _, h6, _, h8⟩ := tk_parts h
    have hk : k ≤ 1680 := by rw [h3]; exact Nat.le_mul_of_pos_left k h4
    have := Nat.mul_le_mul h6 hk
    omega
/-- The duration of a duration's 1680ths is this one. -/
theorem of_tk {n d : Int} (h : tk n d ≠ -1) : oN (tk n d).toNat = n ∧ oD (tk n d).toNat = d := by
  obtain ⟨a, b, k, rfl, rfl, h3, h4, h5, _, h7, h8⟩ := tk_parts h
  have hg : Nat.gcd (a * k) 1680 = k := by rw [h3, Nat.gcd_mul_right, h7, Nat.one_mul]
  rw [h8, Int.toNat_natCast]
  unfold oN oD
  rw [hg, Nat.mul_div_cancel _ h5]
  refine ⟨rfl, ?_⟩
  conv => lhs; rw [h3]
  rw [Nat.mul_div_cancel _ h5]
/-- How many 1680ths the duration of so many 1680ths is. -/
theorem tk_of {n : Nat} (h : n ≤ 1000000000) : tk (oN n) (oD n) = (n : Int) := by
  have hg : 0 < Nat.gcd n 1680 := Nat.gcd_pos_of_pos_right _ (by omega)
  obtain ⟨a, ha⟩ := Nat.gcd_dvd_left n 1680
  obtain ⟨b, hb⟩ := Nat.gcd_dvd_right n 1680
  have hab : Nat.gcd a b = 1 := by
    have h1 : Nat.gcd (Nat.gcd n 1680 * a) (Nat.gcd n 1680 * b) = Nat.gcd n 1680 * Nat.gcd a b := Nat.gcd_mul_left ..
    rw [← ha, ← hb] at h1
    exact (Nat.eq_of_mul_eq_mul_left hg (by rw [Nat.mul_one]; exact h1)).symm
  have ea : n / Nat.gcd n 1680 = a := Nat.div_eq_of_eq_mul_right hg ha
  have eb : 1680 / Nat.gcd n 1680 = b := Nat.div_eq_of_eq_mul_right hg hb
  unfold oN oD
  rw [ea, eb]
  generalize Nat.gcd n 1680 = g at *
  have hb0 : 0 < b := by
    rcases Nat.eq_zero_or_pos b with h0 | h0
    · subst h0; omega
    · exact h0
  have han : a ≤ n := by rw [ha]; exact Nat.le_mul_of_pos_left a hg
  have hd : (1680 : Int) = (b : Int) * (g : Int) := by rw [Int.mul_comm, ← Int.natCast_mul, ← hb]; rfl
  unfold tk
  rw [if_neg]
  · rw [hd, Int.mul_ediv_cancel_left _ (by omega)]
    have : (n : Int) = (g : Int) * (a : Int) := by rw [← Int.natCast_mul, ← ha]
    rw [this, Int.mul_comm]
  · simp only [not_or, Decidable.not_not]
    refine ⟨by omega, ?_, by omega, by omega, by simpa [Int.gcd] using hab⟩
    rw [hd]
    exact Int.mul_emod_right _ _

/-- A bar: ID, Length, Key. -/
abbrev B := Int × Int × Int × Int
def bt (b : B) : Int := tk b.2.1 b.2.2.1
def okB (b : B) : Prop := 1 ≤ b.1 ∧ b.1 ≤ 1000000 ∧ 1 ≤ bt b ∧ bt b ≤ 40320 ∧ -7 ≤ b.2.2.2 ∧ b.2.2.2 ≤ 7
instance (b : B) : Decidable (okB b) := by unfold okB; infer_instance
def before (l : List B) (k : Nat) : Int := ((l.take k).map bt).sum
theorem before_zero (l : List B) : before l 0 = 0 := rfl
theorem before_succ {l : List B} {k : Nat} (h : k < l.length) : before l (k + 1) = before l k + bt l[k] := by
  unfold before
  rw [List.take_succ_eq_append_getElem h, List.map_append, List.sum_append]
  simp
/-- Where so many 1680ths are: the bar, and what is left of them. -/
def wh : List B → Int → Option (Nat × Int)
  | [], n => if n = 0 then some (0, 0) else none
  | b :: r, n => if 0 ≤ n ∧ n < bt b then some (0, n) else (wh r (n - bt b)).map fun p => (p.1 + 1, p.2)
def pos (l : List B) (k : Nat) (t : Int) : Prop := k ≤ l.length ∧ 0 ≤ t ∧ (k = l.length → t = 0) ∧ ∀ h : k < l.length, t < bt l[k]
theorem wh_pos : ∀ {l : List B} {k : Nat} {t : Int}, (∀ b ∈ l, 1 ≤ bt b) → pos l k t → wh l (before l k + t) = some (k, t)
  | [], k, t, _, ⟨h1, h2, h3, h4⟩ => by
    obtain rfl : k = 0 := by simpa using h1
    have := h3 rfl
    subst this
    rfl
  | b :: r, 0, t, _, ⟨h1, h2, h3, h4⟩ => by
    have := h4 (by simp)
    rw [List.getElem_cons_zero] at this
    rw [before_zero, Int.zero_add, wh, if_pos ⟨h2, this⟩]
  | b :: r, k + 1, t, hb, ⟨h1, h2, h3, h4⟩ => by
    have hr : ∀ x ∈ r, 1 ≤ bt x := fun x hx => hb x (by simp [hx])
    have ih := wh_pos (l := r) (k := k) (t := t) hr ⟨by simpa using h1, h2, fun h => h3 (by simp [h]), fun h => by have := h4 (by simpa using h); simpa using this⟩
    have e : before (b :: r) (k + 1) = bt b + before r k := by unfold before; simp
    have h0 : 0 ≤ before r k := by
      unfold before
      have : ∀ l : List B, (∀ x ∈ l, 1 ≤ bt x) → 0 ≤ (l.map bt).sum := fun l => by
        induction l with
        | nil => intro _; simp
        | cons x s ih => intro h; have := ih (fun y hy => h y (by simp [hy])); have := h x (by simp); simp; omega
      exact this _ (fun x hx => hr x (List.mem_of_mem_take hx))
    rw [e, wh, if_neg (by omega), show bt b + before r k + t - bt b = before r k + t by omega, ih]
    rfl
theorem wh_some : ∀ {l : List B} {n : Int} {k : Nat} {t : Int}, (∀ b ∈ l, 1 ≤ bt b) → wh l n = some (k, t) → pos l k t ∧ before l k + t = n
  | [], n, k, t, _, h => by
    rw [wh] at h
    split at h
    · cases h
      rename_i h0
      exact ⟨⟨Nat.le_refl _, Int.le_refl _, fun _ => rfl, fun h => by simp at h⟩, by rw [before_zero]; omega⟩
    · cases h
  | b :: r, n, k, t, hb, h => by
    rw [wh] at h
    split at h
    · rename_i h0
      cases h
      exact ⟨⟨Nat.zero_le _, h0.1, fun h => by simp at h, fun _ => h0.2⟩, by rw [before_zero]; omega⟩
    · cases h2 : wh r (n - bt b) with
      | none => rw [h2] at h; cases h
      | some p =>
        obtain ⟨i, s⟩ := p
        rw [h2] at h
        cases h
        obtain ⟨⟨a1, a2, a3, a4⟩, a5⟩ := wh_some (l := r) (fun x hx => hb x (by simp [hx])) h2
        refine ⟨⟨by simpa using a1, a2, fun h => a3 (by simpa using h), fun h => by have := a4 (by simpa using h); simpa using this⟩, ?_⟩
        have e : before (b :: r) (i + 1) = bt b + before r i := by unfold before; simp
        rw [e]
        omega
end Go.Proofs.Ythamkigdpgajaaa.Mt
