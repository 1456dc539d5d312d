/- The walks of key's isKey, alteration, Alter, Fifths. -/
import Derived.Test.YtnjacgjcoikngaaDoorKs
import Derived.Test.YtnjacgjcoikngaaDoorFg
namespace Go.Proofs.YtnjacgjcoikngaaDoor
open Go.RowKit

/-- What the table holds that key reads. -/
structure GK (w : World) : Prop where
  lt : 0 < w.heap.size
  c0 : w.cell? ⟨0, 0, none⟩ = some (.int .i64 3)
  c1 : w.cell? ⟨0, 1, none⟩ = some (.int .i64 0)
  c2 : w.cell? ⟨0, 2, none⟩ = some (.int .i64 4)
  c3 : w.cell? ⟨0, 3, none⟩ = some (.int .i64 1)
  c4 : w.cell? ⟨0, 4, none⟩ = some (.int .i64 5)
  c5 : w.cell? ⟨0, 5, none⟩ = some (.int .i64 2)
  c6 : w.cell? ⟨0, 6, none⟩ = some (.int .i64 6)
theorem GK.of {w w' : World} (h : GK w) (hs : w.heap.size ≤ w'.heap.size) (hc : ∀ o, w'.cell? ⟨0, o, none⟩ = w.cell? ⟨0, o, none⟩) : GK w' :=
  ⟨Nat.lt_of_lt_of_le h.lt hs, (hc 0).trans h.c0, (hc 1).trans h.c1, (hc 2).trans h.c2, (hc 3).trans h.c3, (hc 4).trans h.c4, (hc 5).trans h.c5, (hc 6).trans h.c6⟩
theorem GK.below {w w' : World} (h : GK w) (hb : Below w.heap.size w w') : GK w' :=
  h.of hb.size fun o => hb.cell (p := ⟨0, o, none⟩) h.lt
theorem GK.alloc {w : World} (h : GK w) (o : Obj) : GK (w.alloc o) := h.below ((Below.refl _ _).alloc (Nat.le_refl _) _)

set_option maxHeartbeats 400000 in
theorem iskey_is (k : Int) (v : Bool) (hv : Ky.kv k = v) (w : World) :
    Calls Tryd.prog 28 #[.int .i64 k] w fun e w' => e = .returned (.bool v) ∧ w = w' := by
  cases v with
  | true =>
    obtain ⟨h1, h2⟩ := Ky.kv_iff.1 hv
    go_enter Tryd.func28, Tryd.ntmps28
    go_wp2
    go_ret
    exact ⟨rfl, rfl⟩
  | false =>
    rcases Ky.kv_no hv with h | h
    · have h1 : ¬ -7 ≤ k := by omega
      go_enter Tryd.func28, Tryd.ntmps28
      go_wp2
      go_ret
      exact ⟨rfl, rfl⟩
    · have h1 : -7 ≤ k := by omega
      have h2 : decide (k ≤ 7) = false := by simp; omega
      go_enter Tryd.func28, Tryd.ntmps28
      go_wp2
      go_ret
      exact ⟨rfl, rfl⟩

set_option maxHeartbeats 400000 in
theorem alteration_is (k p v : Int) (h : (if p < k then (1 : Int) else if 7 + k ≤ p then -1 else 0) = v) (k0 : -1000 ≤ k) (k1 : k ≤ 1000) (w : World) :
    Calls Tryd.prog 29 #[.int .i64 k, .int .i64 p] w fun e w' => e = .returned (.int .i64 v) ∧ w = w' := by
  subst h
  by_cases h1 : p < k
  · rw [if_pos h1]
    go_enter Tryd.func29, Tryd.ntmps29
    go_wp2
    go_ret
    exact ⟨rfl, rfl⟩
  · rw [if_neg h1]
    by_cases h2 : 7 + k ≤ p
    · rw [if_pos h2]
      go_enter Tryd.func29, Tryd.ntmps29
      go_wp2
      go_ret
      exact ⟨rfl, rfl⟩
    · rw [if_neg h2]
      go_enter Tryd.func29, Tryd.ntmps29
      go_wp2
      go_ret
      exact ⟨rfl, rfl⟩

theorem ix0 (w : World) : (Instr.index 55 (.agg #[.int .i64 3, .int .i64 0, .int .i64 4, .int .i64 1, .int .i64 5, .int .i64 2, .int .i64 6]) (.int .i64 0)).run Tryd.prog w = .ok (.int .i64 3) w := by kernel_rfl
theorem ix1 (w : World) : (Instr.index 55 (.agg #[.int .i64 3, .int .i64 0, .int .i64 4, .int .i64 1, .int .i64 5, .int .i64 2, .int .i64 6]) (.int .i64 1)).run Tryd.prog w = .ok (.int .i64 0) w := by kernel_rfl
theorem ix2 (w : World) : (Instr.index 55 (.agg #[.int .i64 3, .int .i64 0, .int .i64 4, .int .i64 1, .int .i64 5, .int .i64 2, .int .i64 6]) (.int .i64 2)).run Tryd.prog w = .ok (.int .i64 4) w := by kernel_rfl
theorem ix3 (w : World) : (Instr.index 55 (.agg #[.int .i64 3, .int .i64 0, .int .i64 4, .int .i64 1, .int .i64 5, .int .i64 2, .int .i64 6]) (.int .i64 3)).run Tryd.prog w = .ok (.int .i64 1) w := by kernel_rfl
theorem ix4 (w : World) : (Instr.index 55 (.agg #[.int .i64 3, .int .i64 0, .int .i64 4, .int .i64 1, .int .i64 5, .int .i64 2, .int .i64 6]) (.int .i64 4)).run Tryd.prog w = .ok (.int .i64 5) w := by kernel_rfl
theorem ix5 (w : World) : (Instr.index 55 (.agg #[.int .i64 3, .int .i64 0, .int .i64 4, .int .i64 1, .int .i64 5, .int .i64 2, .int .i64 6]) (.int .i64 5)).run Tryd.prog w = .ok (.int .i64 2) w := by kernel_rfl
theorem ix6 (w : World) : (Instr.index 55 (.agg #[.int .i64 3, .int .i64 0, .int .i64 4, .int .i64 1, .int .i64 5, .int .i64 2, .int .i64 6]) (.int .i64 6)).run Tryd.prog w = .ok (.int .i64 6) w := by kernel_rfl

set_option maxHeartbeats 1600000 in
theorem alter_is (k s V E : Int) (h : Ky.altR k s = (V, E)) (w : World) (hG : GK w) :
    Calls Tryd.prog 10 #[.int .i64 k, .int .i64 s] w fun e w' => e = .returned (.tuple #[.int .i64 V, .int .i64 E]) ∧ Below w.heap.size w w' := by
  obtain ⟨lt, c0, c1, c2, c3, c4, c5, c6⟩ := hG
  have i0 := ix0; have i1 := ix1; have i2 := ix2; have i3 := ix3; have i4 := ix4; have i5 := ix5; have i6 := ix6
  unfold Ky.altR at h
  obtain ⟨x, hx⟩ : ∃ x, Ky.kv k = x := ⟨_, rfl⟩
  have HX := Lib.hid hx
  cases x with
  | false =>
    rw [hx] at h
    simp only [Bool.false_and, Bool.false_eq_true, if_false, Prod.mk.injEq] at h
    obtain ⟨rfl, rfl⟩ := h
    go_enter Tryd.func10, Tryd.ntmps10
    go_wp2_with fail
    refine (iskey_is _ _ HX.out _).mono ?_; rintro e w1 ⟨rfl, rfl⟩
    go_wp2
    go_ret2
    exact ⟨rfl, Below.refl _ _⟩
  | true =>
    obtain ⟨k0, k1⟩ := Ky.kv_iff.1 hx
    by_cases hs : 0 ≤ s ∧ s ≤ 6
    · have e : ((Ky.kv k && (decide (0 ≤ s) && decide (s ≤ 6))) = true) := by simp [hx, hs]
      rw [if_pos e] at h
      simp only [Prod.mk.injEq] at h
      obtain ⟨rfl, rfl⟩ := h
      have c7 : s = 0 ∨ s = 1 ∨ s = 2 ∨ s = 3 ∨ s = 4 ∨ s = 5 ∨ s = 6 := by omega
      have HA : ∀ w, Calls Tryd.prog 29 #[.int .i64 k, .int .i64 (Ky.plc s)] w fun e w' => e = .returned (.int .i64 (Ky.alt k s)) ∧ w = w' := fun w => by
        have := Ky.plc_in s
        refine alteration_is k (Ky.plc s) _ ?_ (by omega) (by omega) w
        unfold Ky.alt
        by_cases h1 : Ky.plc s < k
        · rw [if_pos h1, if_pos h1]
        · rw [if_neg h1, if_neg h1]
          by_cases h2 : 7 + k ≤ Ky.plc s
          · rw [if_pos h2, if_pos (by omega)]
          · rw [if_neg h2, if_neg (by omega)]
      replace HA := Lib.hid HA
      clear hx e hs
      generalize hV : Ky.alt k s = V at *
      clear hV
      rcases c7 with rfl | rfl | rfl | rfl | rfl | rfl | rfl
      all_goals
        go_enter Tryd.func10, Tryd.ntmps10
        go_wp2_with fail
        refine (iskey_is _ _ HX.out _).mono ?_; rintro e w1 ⟨rfl, rfl⟩
        go_wp2_with fail
        refine wp_loop_rounds 8 ?_
        repeat (rw [rounds_succ]; go_wp2_with fail)
        refine (HA.out _).mono ?_; rintro e w1 ⟨rfl, rfl⟩
        go_wp2
        go_ret2
        exact ⟨rfl, Below.refl _ _⟩
    · have e : (Ky.kv k && (decide (0 ≤ s) && decide (s ≤ 6))) = false := by
        rw [hx]; simp; omega
      rw [e] at h
      simp only [Bool.false_eq_true, if_false, Prod.mk.injEq] at h
      obtain ⟨rfl, rfl⟩ := h
      have d0 : ((0 : Int) == s) = false := by simp; omega
      have d1 : ((1 : Int) == s) = false := by simp; omega
      have d2 : ((2 : Int) == s) = false := by simp; omega
      have d3 : ((3 : Int) == s) = false := by simp; omega
      have d4 : ((4 : Int) == s) = false := by simp; omega
      have d5 : ((5 : Int) == s) = false := by simp; omega
      have d6 : ((6 : Int) == s) = false := by simp; omega
      clear hx e hs
      go_enter Tryd.func10, Tryd.ntmps10
      go_wp2_with fail
      refine (iskey_is _ _ HX.out _).mono ?_; rintro e w1 ⟨rfl, rfl⟩
      go_wp2_with fail
      refine wp_loop_rounds 8 ?_
      repeat (rw [rounds_succ]; go_wp2_with fail)
      go_ret2
      exact ⟨rfl, Below.refl _ _⟩

set_option maxHeartbeats 800000 in
theorem fifths_is (i t V E : Int) (h : Ky.fifR i t = (V, E)) (w : World) :
    Calls Tryd.prog 12 #[.agg #[.int .i64 i, .int .i64 t]] w fun e w' => e = .returned (.tuple #[.int .i64 V, .int .i64 E]) ∧ Below w.heap.size w w' := by
  unfold Ky.fifR at h
  obtain ⟨⟨I, T, F⟩, hB⟩ : ∃ r, Pt.backR i t = r := ⟨_, rfl⟩
  have HB := Lib.hid hB
  unfold Pt.backR at hB
  by_cases hv : Pt.iv i t = true
  · rw [if_pos hv] at h hB
    simp only [Prod.mk.injEq] at h hB
    obtain ⟨rfl, rfl⟩ := h
    obtain ⟨-, -, rfl⟩ := hB
    obtain ⟨l1, l2, l3, l4⟩ := Pt.iv_iff.1 hv
    clear hv
    go_enter Tryd.func12, Tryd.ntmps12
    go_wp2_with fail
    refine (back_is _ _ _ _ _ HB.out _).mono ?_; rintro e w1 ⟨rfl, hb1⟩
    have A := (At2.new w i t _).below hb1
    have G : Below w.heap.size w w1 := ((Below.refl _ _).alloc (Nat.le_refl _) _).trans (hb1.mono (by simp))
    clear hb1
    have a0 := A.c0; have a1 := A.c1; have al := A.lt
    go_wp2_with fail
    go_ret2
    exact ⟨rfl, G.alloc (by have := G.size; omega) _⟩
  · rw [if_neg hv] at h hB
    simp only [Prod.mk.injEq] at h hB
    obtain ⟨rfl, rfl⟩ := h
    obtain ⟨-, -, rfl⟩ := hB
    clear hv
    go_enter Tryd.func12, Tryd.ntmps12
    go_wp2_with fail
    refine (back_is _ _ _ _ _ HB.out _).mono ?_; rintro e w1 ⟨rfl, hb1⟩
    have G : Below w.heap.size w w1 := ((Below.refl _ _).alloc (Nat.le_refl _) _).trans (hb1.mono (by simp))
    clear hb1
    go_wp2_with fail
    go_ret2
    exact ⟨rfl, G.alloc (by have := G.size; omega) _⟩
end Go.Proofs.YtnjacgjcoikngaaDoor
