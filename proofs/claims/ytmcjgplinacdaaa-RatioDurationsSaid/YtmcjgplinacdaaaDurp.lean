/- Plain facts on sums of durations; and slices of ratios that the call itself makes. -/
import Derived.Test.YtmcjgplinacdaaaPure
import Derived.Test.YtmcjgplinacdaaaRops
import Derived.OwnWalk
namespace Go.Proofs.Ytmcjgplinacdaaa.Rt

/-- How many 1680ths a duration is. -/
def unit (x : Int × Int) : Int := x.1 * (1680 / x.2)
def units (xs : List (Int × Int)) : Int := (xs.map unit).sum

theorem dur_parts {n d : Int} (h : dur n d = true) : vld n d = true ∧ 0 ≤ n ∧ (1680 : Int) % d = 0 := by
  unfold dur at h
  simp only [Bool.and_eq_true, decide_eq_true_eq] at h
  exact ⟨h.1.1, h.1.2, h.2⟩
theorem dur_mk {n d : Int} (h1 : vld n d = true) (h2 : 0 ≤ n) (h3 : (1680 : Int) % d = 0) : dur n d = true := by
  unfold dur; simp [h1, h2, h3]
theorem unit_eq {n d : Int} (h : dur n d = true) : n * 1680 = d * unit (n, d) := by
  obtain ⟨_, _, h3⟩ := dur_parts h
  have e : d * (1680 / d) = 1680 := Int.mul_ediv_cancel' (Int.dvd_of_emod_eq_zero h3)
  unfold unit
  simp only
  calc n * 1680 = n * (d * (1680 / d)) := by rw [e]
    _ = d * (n * (1680 / d)) := by grind
theorem unit_in {n d : Int} (h : dur n d = true) : 0 ≤ 1680 / d ∧ 1680 / d ≤ 1680 ∧ 0 ≤ unit (n, d) ∧ unit (n, d) ≤ 1680000000000 := by
  obtain ⟨h1, h2, h3⟩ := dur_parts h
  have l := vld_lim h1
  have a : 0 ≤ 1680 / d := Int.ediv_nonneg (by omega) (by omega)
  have b : 1680 / d ≤ 1680 := Int.ediv_le_self _ (by omega)
  have c := mul_in n (1680 / d) 1000000000 1680 (by omega) (by omega) (by omega) b
  have e : 0 ≤ n * (1680 / d) := Int.mul_nonneg h2 a
  unfold unit
  simp only [Int.reduceMul, Int.reduceNeg] at c ⊢
  omega
theorem of_units {U : Int} (h0 : 0 ≤ U) (h1 : U ≤ 806400000) : redE U 1680 = 0 ∧ dur (redN U 1680) (redD U 1680) = true ∧ unit (redN U 1680, redD U 1680) = U := by
  have hd : (1680 : Int) ≠ 0 := by omega
  have a := q_n (n := U) hd
  have b := q_d (n := U) hd
  have c := (redG_sign (n := U) hd).1 (by omega)
  have d := qD_pos (n := U) hd
  have e1 : qD U 1680 ∣ 1680 := ⟨redG U 1680, by rw [Int.mul_comm]; exact b.symm⟩
  have e2 : qD U 1680 ≤ 1680 := Int.le_of_dvd (by omega) e1
  have e3 : 0 ≤ qN U 1680 := by
    refine Int.le_of_not_gt fun hn => ?_
    have := Int.mul_neg_of_pos_of_neg c hn
    omega
  have e4 : qN U 1680 ≤ U := by
    have : 1 * qN U 1680 ≤ redG U 1680 * qN U 1680 := Int.mul_le_mul_of_nonneg_right (by omega) e3
    omega
  have e0 : redE U 1680 = 0 := by
    unfold redE; rw [if_neg hd, if_pos (lim_iff.2 (by omega))]
  obtain ⟨_, g2, _, g4, g5⟩ := red_ok e0
  refine ⟨e0, dur_mk g2 (by rw [g4]; exact e3) (by rw [g5]; exact Int.emod_eq_zero_of_dvd e1), ?_⟩
  unfold unit
  simp only [g4, g5]
  have e5 : 1680 / qD U 1680 = redG U 1680 := by
    have : redG U 1680 * qD U 1680 / qD U 1680 = redG U 1680 := Int.mul_ediv_cancel _ (by omega)
    rw [b] at this; exact this
  rw [e5, Int.mul_comm]; exact a
theorem of_dur {n d : Int} (h : dur n d = true) : redN (unit (n, d)) 1680 = n ∧ redD (unit (n, d)) 1680 = d :=
  (red_of (n := unit (n, d)) (d := 1680) (by omega) (dur_parts h).1 (unit_eq h)).2
theorem add_units {U c d : Int} (h0 : 0 ≤ U) (hd : dur c d = true) (hb : U + unit (c, d) ≤ 806400000) :
    addR (redN U 1680) (redD U 1680) c d = (redN (U + unit (c, d)) 1680, redD (U + unit (c, d)) 1680, 0) := by
  have hu := unit_in hd
  obtain ⟨_, a1, a2⟩ := of_units h0 (by omega)
  obtain ⟨_, b1, b2⟩ := of_units (U := U + unit (c, d)) (by omega) hb
  have e1 := unit_eq a1
  have e2 := unit_eq b1
  have e3 := unit_eq hd
  rw [a2] at e1
  rw [b2] at e2
  refine add_of (dur_parts a1).1 (dur_parts hd).1 (dur_parts b1).1 ?_
  generalize redN U 1680 = n at *
  generalize redD U 1680 = m at *
  generalize redN (U + unit (c, d)) 1680 = N at *
  generalize redD (U + unit (c, d)) 1680 = D at *
  generalize unit (c, d) = v at *
  refine Int.eq_of_mul_eq_mul_right (show (1680 : Int) ≠ 0 by omega) ?_
  calc N * (m * d) * 1680 = N * 1680 * (m * d) := by grind
    _ = D * (U + v) * (m * d) := by rw [e2]
    _ = D * ((m * U) * d + (d * v) * m) := by grind
    _ = D * ((n * 1680) * d + (c * 1680) * m) := by rw [e1, e3]
    _ = D * (n * d + c * m) * 1680 := by grind
theorem units_nonneg : ∀ (xs : List (Int × Int)), (∀ x ∈ xs, dur x.1 x.2 = true) → 0 ≤ units xs
  | [], _ => by simp [units]
  | x :: r, h => by
    have a := units_nonneg r (fun y hy => h y (List.mem_cons_of_mem _ hy))
    have b : 0 ≤ unit x := (unit_in (h x List.mem_cons_self)).2.2.1
    unfold units at *
    simp only [List.map_cons, List.sum_cons]
    omega
theorem fold_units : ∀ (xs : List (Int × Int)) (U : Int), 0 ≤ U → (∀ x ∈ xs, dur x.1 x.2 = true) → U + units xs ≤ 806400000 →
    fold (redN U 1680) (redD U 1680) xs = (redN (U + units xs) 1680, redD (U + units xs) 1680, 0)
  | [], U, _, _, _ => by simp [units, fold]
  | x :: r, U, h0, h, hb => by
    have hr := units_nonneg r (fun y hy => h y (List.mem_cons_of_mem _ hy))
    have e : units (x :: r) = unit (x.1, x.2) + units r := by unfold units; simp
    have hx := h x List.mem_cons_self
    have hu := unit_in hx
    rw [e] at hb ⊢
    have ha := add_units h0 hx (by omega)
    show (if (addR (redN U 1680) (redD U 1680) x.1 x.2).2.2 = 0 then _ else _) = _
    rw [ha]
    simp only [if_true]
    rw [fold_units r (U + unit (x.1, x.2)) (by omega) (fun y hy => h y (List.mem_cons_of_mem _ hy)) (by omega), Int.add_assoc]
theorem red_zero : redN 0 1680 = 0 ∧ redD 0 1680 = 1 := by decide +kernel
theorem sum_units {xs : List (Int × Int)} (hl : xs.length ≤ 40) (h : ∀ x ∈ xs, dur x.1 x.2 = true) (hb : units xs ≤ 806400000) : sumR xs = (redN (units xs) 1680, redD (units xs) 1680, 0) := by
  have hv : xs.all (fun x => vld x.1 x.2) = true := by
    rw [List.all_eq_true]; intro x hx; exact (dur_parts (h x hx)).1
  unfold sumR
  rw [if_neg (by omega), hv]
  simp only [if_true]
  have := fold_units xs 0 (by omega) h (by omega)
  rw [red_zero.1, red_zero.2, Int.zero_add] at this
  exact this
theorem units_reverse (xs : List (Int × Int)) : units xs.reverse = units xs := by
  unfold units
  rw [List.map_reverse, List.sum_reverse]
theorem units_take_succ {xs : List (Int × Int)} {k : Nat} (h : k < xs.length) : units (xs.take (k + 1)) = units (xs.take k) + unit xs[k] := by
  rw [List.take_succ_eq_append_getElem h]
  unfold units
  simp only [List.map_append, List.map_cons, List.map_nil, List.sum_append, List.sum_cons, List.sum_nil, Int.add_zero]
theorem units_take_in (xs : List (Int × Int)) (hd : ∀ x ∈ xs, dur x.1 x.2 = true) : 0 ≤ units xs ∧ units xs ≤ 1680000000000 * xs.length := by
  refine ⟨units_nonneg xs hd, ?_⟩
  induction xs with
  | nil => simp [units]
  | cons x r ih =>
    have a := ih (fun y hy => hd y (List.mem_cons_of_mem _ hy))
    have b := unit_in (hd x List.mem_cons_self)
    have e : units (x :: r) = unit (x.1, x.2) + units r := by unfold units; simp
    rw [e]
    simp only [List.length_cons]
    omega

/-- The cells of a list of ratios, one after the other. -/
def cells (xs : List (Int × Int)) : List Value := xs.flatMap fun x => [.int .i64 x.1, .int .i64 x.2]
theorem cells_len (xs : List (Int × Int)) : (cells xs).length = xs.length * 2 := by
  induction xs with
  | nil => rfl
  | cons x r ih => unfold cells at *; simp [ih]; omega
theorem cells_at : ∀ (xs : List (Int × Int)) (k : Nat) (h : k < xs.length), (cells xs)[k * 2]? = some (.int .i64 xs[k].1) ∧ (cells xs)[k * 2 + 1]? = some (.int .i64 xs[k].2)
  | x :: r, 0, _ => by unfold cells; simp
  | x :: r, k + 1, h => by
    have := cells_at r k (by simpa using h)
    have e : cells (x :: r) = [.int .i64 x.1, .int .i64 x.2] ++ cells r := by unfold cells; simp
    rw [e]
    rw [List.getElem?_append_right (by simp; omega), List.getElem?_append_right (by simp; omega)]
    simp only [List.length_cons, List.length_nil, List.getElem_cons_succ]
    rw [show (k + 1) * 2 - (0 + 1 + 1) = k * 2 by omega, show (k + 1) * 2 + 1 - (0 + 1 + 1) = k * 2 + 1 by omega]
    exact this
theorem cells_snoc {xs : List (Int × Int)} {k : Nat} (h : k < xs.length) : cells (xs.take (k + 1)) = cells (xs.take k) ++ [.int .i64 xs[k].1, .int .i64 xs[k].2] := by
  rw [List.take_succ_eq_append_getElem h]
  unfold cells
  simp only [List.flatMap_append, List.flatMap_cons, List.flatMap_nil, List.append_nil]
end Go.Proofs.Ytmcjgplinacdaaa.Rt
namespace Go.Proofs.Ytmcjgplinacdaaa
open Go.RowKit

theorem owns_below {w w' : World} {base e size n : Nat} {v : Value} {xs : List Value} (h : w.ownsRow base e size v n xs) (hb : Below w.heap.size w w') : w'.ownsRow base e size v n xs := by
  obtain ⟨h1, h2 | ⟨g, cap, cur, rfl, hg, hh, r⟩⟩ := h
  · exact ⟨h1, Or.inl h2⟩
  · have hlt : g < w.heap.size := by
      refine Nat.lt_of_not_ge fun hge => ?_
      rw [Array.getElem?_eq_none hge] at hh; cases hh
    exact ⟨h1, Or.inr ⟨g, cap, cur, rfl, hg, by rw [hb.block g hlt]; exact hh, r⟩⟩
theorem owns_slice {w : World} {base n : Nat} {e : TypeId} {v : Value} {xs : List (Int × Int)} (h : w.ownsRow base e 2 v n (Rt.cells xs)) (hn : n = xs.length) : SliceIs w v xs := by
  subst hn
  obtain ⟨h1, ⟨rfl, h2⟩ | ⟨g, cap, cur, rfl, hg, hh, h3, h4, h5, h6⟩⟩ := h
  · exact Or.inl ⟨rfl, List.eq_nil_of_length_eq_zero h2⟩
  · refine Or.inr ⟨g, 0, cap, rfl, ?_, fun k hk => ?_⟩
    · refine Nat.lt_of_not_ge fun hge => ?_
      rw [Array.getElem?_eq_none hge] at hh; cases hh
    · have ho : w.ownsRow base e 2 (.slice (some ⟨g, 0, none⟩) xs.length cap) xs.length (Rt.cells xs) := ⟨h1, Or.inr ⟨g, cap, cur, rfl, hg, hh, h3, h4, h5, h6⟩⟩
      have c := Rt.cells_at xs k hk
      exact ⟨by rw [Nat.zero_add, ho.cellAt (k * 2) (by omega)]; exact c.1, by rw [Nat.zero_add, ho.cellAt (k * 2 + 1) (by omega)]; exact c.2⟩
end Go.Proofs.Ytmcjgplinacdaaa
