/- The walks of the reference's alter, Alter, Fifths, Move. -/
import Derived.Test.YtnjacgjcoikngaaDoorKr
namespace Go.Proofs.YtnjacgjcoikngaaDoor
open Go.RowKit

set_option maxHeartbeats 800000 in
theorem kalter_is (k s v : Int) (h : Ky.alt k s = v) (k0 : -1000 ≤ k) (k1 : k ≤ 1000) (w : World) :
    Calls Tryd.prog 31 #[.int .i64 k, .int .i64 s] w fun e w' => e = .returned (.int .i64 v) ∧ Below w.heap.size w w' := by
  subst h
  have hp := Ky.plc_in s
  obtain ⟨p, hP⟩ : ∃ p, Ky.plc s = p := ⟨_, rfl⟩
  have HP := Lib.hid hP
  rw [hP] at hp
  obtain ⟨p0, p6⟩ := hp
  have e : Ky.alt k s = if p < k then 1 else if 6 - p < -k then -1 else 0 := by unfold Ky.alt; rw [hP]
  rw [e]
  clear hP e
  by_cases h1 : p < k
  · rw [if_pos h1]
    go_enter Tryd.func31, Tryd.ntmps31
    go_wp2_with fail
    refine (kplace_is _ _ HP.out _).mono ?_; rintro e w1 ⟨rfl, hb1⟩
    go_wp2
    go_ret
    exact ⟨rfl, hb1⟩
  · rw [if_neg h1]
    by_cases h2 : 6 - p < -k
    · rw [if_pos h2]
      go_enter Tryd.func31, Tryd.ntmps31
      go_wp2_with fail
      refine (kplace_is _ _ HP.out _).mono ?_; rintro e w1 ⟨rfl, hb1⟩
      go_wp2_with fail
      refine (kplace_is _ _ HP.out _).mono ?_; rintro e w2 ⟨rfl, hb2⟩
      go_wp2
      go_ret
      exact ⟨rfl, hb1.trans (hb2.mono hb1.size)⟩
    · rw [if_neg h2]
      go_enter Tryd.func31, Tryd.ntmps31
      go_wp2_with fail
      refine (kplace_is _ _ HP.out _).mono ?_; rintro e w1 ⟨rfl, hb1⟩
      go_wp2_with fail
      refine (kplace_is _ _ HP.out _).mono ?_; rintro e w2 ⟨rfl, hb2⟩
      go_wp2
      go_ret
      exact ⟨rfl, hb1.trans (hb2.mono hb1.size)⟩

set_option maxHeartbeats 800000 in
theorem kAlter_is (k s V E : Int) (h : Ky.altR k s = (V, E)) (w : World) :
    Calls Tryd.prog 11 #[.int .i64 k, .int .i64 s] w fun e w' => e = .returned (.tuple #[.int .i64 V, .int .i64 E]) ∧ Below w.heap.size w w' := by
  unfold Ky.altR at h
  obtain ⟨x, hx⟩ : ∃ x, Ky.kv k = x := ⟨_, rfl⟩
  obtain ⟨y, hy⟩ : ∃ y, (decide (0 ≤ s) && decide (s ≤ 6)) = y := ⟨_, rfl⟩
  rw [hx, hy] at h
  have HX := Lib.hid hx
  have HY := Lib.hid hy
  have HA : x = true → ∀ w', Calls Tryd.prog 31 #[.int .i64 k, .int .i64 s] w' fun e w'' => e = .returned (.int .i64 (Ky.alt k s)) ∧ Below w'.heap.size w' w'' := by
    rintro rfl w'
    obtain ⟨h1, h2⟩ := Ky.kv_iff.1 hx
    exact kalter_is k s _ rfl (by omega) (by omega) w'
  clear hx hy
  cases x with
  | true =>
    replace HA := Lib.hid (HA rfl)
    cases y with
    | true =>
      simp only [Bool.and_self, if_true, Prod.mk.injEq] at h
      obtain ⟨rfl, rfl⟩ := h
      generalize Ky.alt k s = V at *
      go_enter Tryd.func11, Tryd.ntmps11
      go_wp2_with fail
      refine (kkey_is _ _ HX.out _).mono ?_; rintro e w1 ⟨rfl, rfl⟩
      go_wp2_with fail
      refine (kin_is _ _ _ _ HY.out _).mono ?_; rintro e w1 ⟨rfl, rfl⟩
      go_wp2_with fail
      refine (HA.out _).mono ?_; rintro e w1 ⟨rfl, hb1⟩
      go_wp2
      go_ret2
      exact ⟨rfl, hb1⟩
    | false =>
      simp only [Bool.and_false, Bool.false_eq_true, if_false, Prod.mk.injEq] at h
      obtain ⟨rfl, rfl⟩ := h
      clear HA
      go_enter Tryd.func11, Tryd.ntmps11
      go_wp2_with fail
      refine (kkey_is _ _ HX.out _).mono ?_; rintro e w1 ⟨rfl, rfl⟩
      go_wp2_with fail
      refine (kin_is _ _ _ _ HY.out _).mono ?_; rintro e w1 ⟨rfl, rfl⟩
      go_wp2
      go_ret2
      exact ⟨rfl, Below.refl _ _⟩
  | false =>
    simp only [Bool.false_and, Bool.false_eq_true, if_false, Prod.mk.injEq] at h
    obtain ⟨rfl, rfl⟩ := h
    clear HA
    go_enter Tryd.func11, Tryd.ntmps11
    go_wp2_with fail
    refine (kkey_is _ _ HX.out _).mono ?_; rintro e w1 ⟨rfl, rfl⟩
    go_wp2
    go_ret2
    exact ⟨rfl, Below.refl _ _⟩

set_option maxHeartbeats 400000 in
theorem kfifths_is (i t V E : Int) (h : Ky.fifR i t = (V, E)) (w : World) :
    Calls Tryd.prog 13 #[.agg #[.int .i64 i, .int .i64 t]] w fun e w' => e = .returned (.tuple #[.int .i64 V, .int .i64 E]) ∧ Below w.heap.size w w' := by
  unfold Ky.fifR at h
  by_cases hv : Pt.iv i t = true
  · rw [if_pos hv] at h
    simp only [Prod.mk.injEq] at h
    obtain ⟨rfl, rfl⟩ := h
    obtain ⟨l1, l2, l3, l4⟩ := Pt.iv_iff.1 hv
    have HV := Lib.hid hv
    clear hv
    go_enter Tryd.func13, Tryd.ntmps13
    go_wp2_with fail
    refine (kinterval_is _ _ _ HV.out _).mono ?_; rintro e w1 ⟨rfl, hb1⟩
    have A := (At2.new w i t _).below hb1
    have G : Below w.heap.size w w1 := ((Below.refl _ _).alloc (Nat.le_refl _) _).trans (hb1.mono (by simp))
    clear hb1
    obtain ⟨a0, a1⟩ := And.intro A.c0 A.c1
    go_wp2
    go_ret2
    exact ⟨rfl, G⟩
  · have hv' : Pt.iv i t = false := by simpa using hv
    rw [if_neg hv] at h
    simp only [Prod.mk.injEq] at h
    obtain ⟨rfl, rfl⟩ := h
    have HV := Lib.hid hv'
    clear hv hv'
    go_enter Tryd.func13, Tryd.ntmps13
    go_wp2_with fail
    refine (kinterval_is _ _ _ HV.out _).mono ?_; rintro e w1 ⟨rfl, hb1⟩
    have G : Below w.heap.size w w1 := ((Below.refl _ _).alloc (Nat.le_refl _) _).trans (hb1.mono (by simp))
    clear hb1
    go_wp2
    go_ret2
    exact ⟨rfl, G⟩
end Go.Proofs.YtnjacgjcoikngaaDoor
