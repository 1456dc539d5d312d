/- The walks of the reference's functions on pitches and intervals. -/
import Derived.Test.YtgehnciegolkhaaDoorHelp
import Derived.Test.YtgehnciegolkhaaDoorPm
namespace Go.Proofs.YtgehnciegolkhaaDoor
open Go.RowKit

set_option maxHeartbeats 400000 in
theorem in_any (n a b : Int) (w : World) :
    Calls Tryd.prog 29 #[.int .i64 n, .int .i64 a, .int .i64 b] w fun e w' => e = .returned (.bool (decide (a ≤ n) && decide (n ≤ b))) ∧ w = w' := by
  by_cases h1 : a ≤ n
  · by_cases h2 : n ≤ b
    · have e : (decide (a ≤ n) && decide (n ≤ b)) = true := by simp [h1, h2]
      rw [e]; clear e
      go_enter Tryd.func29, Tryd.ntmps29
      go_wp2
      go_ret
      exact ⟨rfl, rfl⟩
    · have e : (decide (a ≤ n) && decide (n ≤ b)) = false := by simp; omega
      rw [e]; clear e
      have h3 : decide (n ≤ b) = false := by simpa using h2
      go_enter Tryd.func29, Tryd.ntmps29
      go_wp2
      go_ret
      exact ⟨rfl, rfl⟩
  · have e : (decide (a ≤ n) && decide (n ≤ b)) = false := by simp; omega
    rw [e]; clear e
    go_enter Tryd.func29, Tryd.ntmps29
    go_wp2
    go_ret
    exact ⟨rfl, rfl⟩
theorem in_is (n a b : Int) (v : Bool) (hv : (decide (a ≤ n) && decide (n ≤ b)) = v) (w : World) :
    Calls Tryd.prog 29 #[.int .i64 n, .int .i64 a, .int .i64 b] w fun e w' => e = .returned (.bool v) ∧ w = w' := by
  subst hv; exact in_any n a b w

set_option maxHeartbeats 800000 in
theorem pvalid_is (s a o : Int) (v : Bool) (hv : Pt.pv s a o = v) (w : World) :
    Calls Tryd.prog 11 #[.agg #[.int .i64 s, .int .i64 a, .int .i64 o]] w fun e w' => e = .returned (.bool v) ∧ Below w.heap.size w w' := by
  obtain ⟨x, hx⟩ : ∃ x, (decide (0 ≤ s) && decide (s ≤ 6)) = x := ⟨_, rfl⟩
  obtain ⟨y, hy⟩ : ∃ y, (decide (-4 ≤ a) && decide (a ≤ 4)) = y := ⟨_, rfl⟩
  obtain ⟨z, hz⟩ : ∃ z, (decide (-8 ≤ o) && decide (o ≤ 20)) = z := ⟨_, rfl⟩
  have e : v = (x && y && z) := by
    rw [← hv, ← hx, ← hy, ← hz]; unfold Pt.pv; simp only [Bool.and_assoc]
  subst e
  have HX := Lib.hid hx
  have HY := Lib.hid hy
  have HZ := Lib.hid hz
  clear hx hy hz hv
  cases x <;> cases y
  all_goals
    go_enter Tryd.func11, Tryd.ntmps11
    go_wp2_with fail
    refine (in_is _ _ _ _ HX.out _).mono ?_; rintro e w' ⟨rfl, rfl⟩
    go_wp2_with fail
    refine (in_is _ _ _ _ HY.out _).mono ?_; rintro e w' ⟨rfl, rfl⟩
    go_wp2_with fail
    first
      | (go_ret; exact ⟨rfl, by go_grown⟩)
      | (refine (in_is _ _ _ _ HZ.out _).mono ?_; rintro e w' ⟨rfl, rfl⟩; go_wp2_with fail; go_ret; exact ⟨rfl, by go_grown⟩)

set_option maxHeartbeats 800000 in
theorem form_is (i t : Int) (v : Bool) (hv : Pt.iv i t = v) (w : World) :
    Calls Tryd.prog 35 #[.agg #[.int .i64 i, .int .i64 t]] w fun e w' => e = .returned (.bool v) ∧ Below w.heap.size w w' := by
  obtain ⟨x, hx⟩ : ∃ x, (decide (-70 ≤ i) && decide (i ≤ 70)) = x := ⟨_, rfl⟩
  obtain ⟨y, hy⟩ : ∃ y, (decide (-120 ≤ t) && decide (t ≤ 120)) = y := ⟨_, rfl⟩
  have e : v = (x && y) := by
    rw [← hv, ← hx, ← hy]; unfold Pt.iv; simp only [Bool.and_assoc]
  subst e
  have HX := Lib.hid hx
  have HY := Lib.hid hy
  clear hx hy hv
  cases x
  all_goals
    go_enter Tryd.func35, Tryd.ntmps35
    go_wp2_with fail
    refine (in_is _ _ _ _ HX.out _).mono ?_; rintro e w' ⟨rfl, rfl⟩
    go_wp2_with fail
    first
      | (go_ret; exact ⟨rfl, by go_grown⟩)
      | (refine (in_is _ _ _ _ HY.out _).mono ?_; rintro e w' ⟨rfl, rfl⟩; go_wp2_with fail; go_ret; exact ⟨rfl, by go_grown⟩)

set_option maxHeartbeats 400000 in
theorem natural_any (s : Int) (w : World) (h0 : -1000 ≤ s) (h1 : s ≤ 1000) :
    Calls Tryd.prog 42 #[.int .i64 s] w fun e w' => e = .returned (.int .i64 (Pt.natI s)) ∧ w = w' := by
  by_cases h : 2 < s
  · have e : Pt.natI s = 2 * s - 1 := by unfold Pt.natI; rw [if_pos h]
    rw [e]; clear e
    go_enter Tryd.func42, Tryd.ntmps42
    go_wp2
    go_ret
    exact ⟨rfl, rfl⟩
  · have e : Pt.natI s = 2 * s := by unfold Pt.natI; rw [if_neg h]
    rw [e]; clear e
    go_enter Tryd.func42, Tryd.ntmps42
    go_wp2
    go_ret
    exact ⟨rfl, rfl⟩

set_option maxHeartbeats 400000 in
theorem place_any (s a o : Int) (w : World) (h0 : -1000 ≤ s) (h1 : s ≤ 1000) (h2 : -1000 ≤ o) (h3 : o ≤ 1000) :
    Calls Tryd.prog 26 #[.agg #[.int .i64 s, .int .i64 a, .int .i64 o]] w fun e w' => e = .returned (.int .i64 (7 * o + s)) ∧ Below w.heap.size w w' := by
  go_enter Tryd.func26, Tryd.ntmps26
  go_wp2_with fail
  go_ret
  exact ⟨rfl, by go_grown⟩

set_option maxHeartbeats 400000 in
theorem sound_any (s a o : Int) (w : World) (h0 : -1000 ≤ s) (h1 : s ≤ 1000) (h2 : -1000 ≤ o) (h3 : o ≤ 1000) (h4 : -1000 ≤ a) (h5 : a ≤ 1000) :
    Calls Tryd.prog 31 #[.agg #[.int .i64 s, .int .i64 a, .int .i64 o]] w fun e w' => e = .returned (.int .i64 (Pt.snd s a o)) ∧ Below w.heap.size w w' := by
  have hn : -2001 ≤ Pt.natI s ∧ Pt.natI s ≤ 2001 := by unfold Pt.natI; split <;> omega
  obtain ⟨n1, n2⟩ := hn
  have C := Lib.hid (fun w' => natural_any s w' h0 h1)
  have E : Hid (Pt.snd s a o = 12 * o + Pt.natI s + a) := Lib.hid rfl
  rw [E.out]
  generalize Pt.natI s = n at *
  go_enter Tryd.func31, Tryd.ntmps31
  go_wp2_with fail
  go_quiet ((go_at_call 42; exact quiet_left (C.out _)))
  go_wp2_with fail
  go_ret
  exact ⟨rfl, below_drewN (by go_grown) _⟩

set_option maxHeartbeats 400000 in
theorem rnumber_is (s a o V E : Int) (h : Pt.numR s a o = (V, E)) (w : World) :
    Calls Tryd.prog 13 #[.agg #[.int .i64 s, .int .i64 a, .int .i64 o]] w fun e w' => e = .returned (.tuple #[.int .i64 V, .int .i64 E]) ∧ Below w.heap.size w w' := by
  unfold Pt.numR at h
  by_cases hv : Pt.pv s a o = true
  · rw [if_pos hv] at h
    simp only [Prod.mk.injEq] at h
    obtain ⟨rfl, rfl⟩ := h
    have l := Pt.pv_iff.1 hv
    have HV := Lib.hid hv
    have HS := Lib.hid (fun w' => sound_any s a o w' (by omega) (by omega) (by omega) (by omega) (by omega) (by omega))
    clear hv l
    generalize Pt.snd s a o = V at *
    go_enter Tryd.func13, Tryd.ntmps13
    go_wp2_with fail
    refine (pvalid_is _ _ _ _ HV.out _).mono ?_; rintro e w1 ⟨rfl, hb1⟩
    have A1 := (At3.new w s a o _).below hb1
    have c0 := A1.c0; have c1 := A1.c1; have c2 := A1.c2
    go_wp2_with fail
    refine (HS.out _).mono ?_; rintro e w2 ⟨rfl, hb2⟩
    go_wp2_with fail
    go_ret2
    exact ⟨rfl, (((Below.refl _ _).alloc (Nat.le_refl _) _).trans (hb1.mono (by simp))).trans (hb2.mono (by have := hb1.size; simp at this; omega))⟩
  · have hv' : Pt.pv s a o = false := by simpa using hv
    rw [if_neg hv] at h
    simp only [Prod.mk.injEq] at h
    obtain ⟨rfl, rfl⟩ := h
    have HV := Lib.hid hv'
    clear hv hv'
    go_enter Tryd.func13, Tryd.ntmps13
    go_wp2_with fail
    refine (pvalid_is _ _ _ _ HV.out _).mono ?_; rintro e w1 ⟨rfl, hb1⟩
    go_wp2_with fail
    go_ret2
    exact ⟨rfl, ((Below.refl _ _).alloc (Nat.le_refl _) _).trans (hb1.mono (by simp))⟩

set_option maxHeartbeats 400000 in
theorem rback_is (i t I T E : Int) (h : Pt.backR i t = (I, T, E)) (w : World) :
    Calls Tryd.prog 21 #[.agg #[.int .i64 i, .int .i64 t]] w fun e w' => e = .returned (.tuple #[.agg #[.int .i64 I, .int .i64 T], .int .i64 E]) ∧ Below w.heap.size w w' := by
  unfold Pt.backR at h
  by_cases hv : Pt.iv i t = true
  · rw [if_pos hv] at h
    simp only [Prod.mk.injEq] at h
    obtain ⟨rfl, rfl, rfl⟩ := h
    obtain ⟨l1, l2, l3, l4⟩ := Pt.iv_iff.1 hv
    have HV := Lib.hid hv
    clear hv
    go_enter Tryd.func21, Tryd.ntmps21
    go_wp2_with fail
    refine (form_is _ _ _ HV.out _).mono ?_; rintro e w1 ⟨rfl, hb1⟩
    obtain ⟨hc, hf⟩ := bcell hb1
    have q0 : w1.cell? ⟨w.heap.size + 1, 0, none⟩ = some (.int .i64 0) := by rw [hc _ _ (by simp)]; go_simp
    have q1 : w1.cell? ⟨w.heap.size + 1, 1, none⟩ = some (.int .i64 0) := by rw [hc _ _ (by simp)]; go_simp
    go_wp2_with fail
    refine bodyPost_ret (v := .tuple #[.agg #[.int .i64 (-i), .int .i64 (-t)], .int .i64 0]) (by simp [results, Tryd.results21, go_sem, q0, q1]) rfl ⟨rfl, ?_⟩
    exact (((((Below.refl _ _).alloc (Nat.le_refl _) _).alloc (by simp) _).trans (hb1.mono (by simp; omega))).setCell (by simp) _).setCell (by simp) _
  · have hv' : Pt.iv i t = false := by simpa using hv
    rw [if_neg hv] at h
    simp only [Prod.mk.injEq] at h
    obtain ⟨rfl, rfl, rfl⟩ := h
    have HV := Lib.hid hv'
    clear hv hv'
    go_enter Tryd.func21, Tryd.ntmps21
    go_wp2_with fail
    refine (form_is _ _ _ HV.out _).mono ?_; rintro e w1 ⟨rfl, hb1⟩
    obtain ⟨hc, hf⟩ := bcell hb1
    have q0 : w1.cell? ⟨w.heap.size + 1, 0, none⟩ = some (.int .i64 0) := by rw [hc _ _ (by simp)]; go_simp
    have q1 : w1.cell? ⟨w.heap.size + 1, 1, none⟩ = some (.int .i64 0) := by rw [hc _ _ (by simp)]; go_simp
    go_wp2_with fail
    refine bodyPost_ret (v := .tuple #[.agg #[.int .i64 0, .int .i64 0], .int .i64 1]) (by simp [results, Tryd.results21, go_sem, q0, q1]) rfl ⟨rfl, ?_⟩
    exact (((((Below.refl _ _).alloc (Nat.le_refl _) _).alloc (by simp) _).trans (hb1.mono (by simp; omega))).setCell (by simp) _).setCell (by simp) _
end Go.Proofs.YtgehnciegolkhaaDoor
