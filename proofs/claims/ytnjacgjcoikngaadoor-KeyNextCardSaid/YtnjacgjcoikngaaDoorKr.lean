/- The walks of the reference's functions on keys and intervals. -/
import Derived.Test.YtnjacgjcoikngaaDoorTail
import Derived.Test.YtnjacgjcoikngaaDoorKl
import Derived.LoopTactic
import Derived.LoopN
namespace Go.Proofs.YtnjacgjcoikngaaDoor
open Go.RowKit

set_option maxHeartbeats 400000 in
theorem kin_is (n a b : Int) (v : Bool) (hv : (decide (a ≤ n) && decide (n ≤ b)) = v) (w : World) :
    Calls Tryd.prog 30 #[.int .i64 n, .int .i64 a, .int .i64 b] w fun e w' => e = .returned (.bool v) ∧ w = w' := by
  subst hv
  by_cases h1 : a ≤ n
  · by_cases h2 : n ≤ b
    · have e : (decide (a ≤ n) && decide (n ≤ b)) = true := by simp [h1, h2]
      rw [e]; clear e
      go_enter Tryd.func30, Tryd.ntmps30
      go_wp2
      go_ret
      exact ⟨rfl, rfl⟩
    · have e : (decide (a ≤ n) && decide (n ≤ b)) = false := by simp; omega
      rw [e]; clear e
      have h3 : decide (n ≤ b) = false := by simpa using h2
      go_enter Tryd.func30, Tryd.ntmps30
      go_wp2
      go_ret
      exact ⟨rfl, rfl⟩
  · have e : (decide (a ≤ n) && decide (n ≤ b)) = false := by simp; omega
    rw [e]; clear e
    go_enter Tryd.func30, Tryd.ntmps30
    go_wp2
    go_ret
    exact ⟨rfl, rfl⟩

set_option maxHeartbeats 400000 in
theorem kkey_is (k : Int) (v : Bool) (hv : Ky.kv k = v) (w : World) :
    Calls Tryd.prog 22 #[.int .i64 k] w fun e w' => e = .returned (.bool v) ∧ w = w' := by
  cases v with
  | true =>
    obtain ⟨h1, h2⟩ := Ky.kv_iff.1 hv
    go_enter Tryd.func22, Tryd.ntmps22
    go_wp2
    go_ret
    exact ⟨rfl, rfl⟩
  | false =>
    rcases Ky.kv_no hv with h | h
    · have h1 : ¬ -7 ≤ k := by omega
      go_enter Tryd.func22, Tryd.ntmps22
      go_wp2
      go_ret
      exact ⟨rfl, rfl⟩
    · have h1 : -7 ≤ k := by omega
      have h2 : decide (k ≤ 7) = false := by simp; omega
      go_enter Tryd.func22, Tryd.ntmps22
      go_wp2
      go_ret
      exact ⟨rfl, rfl⟩

set_option maxHeartbeats 800000 in
theorem kinterval_is (i t : Int) (v : Bool) (hv : Pt.iv i t = v) (w : World) :
    Calls Tryd.prog 23 #[.agg #[.int .i64 i, .int .i64 t]] w fun e w' => e = .returned (.bool v) ∧ Below w.heap.size w w' := by
  obtain ⟨x, hx⟩ : ∃ x, (decide (-70 ≤ i) && decide (i ≤ 70)) = x := ⟨_, rfl⟩
  obtain ⟨y, hy⟩ : ∃ y, (decide (-120 ≤ t) && decide (t ≤ 120)) = y := ⟨_, rfl⟩
  have e : v = (x && y) := by
    rw [← hv, ← hx, ← hy]; unfold Pt.iv; simp only [Bool.and_assoc]
  subst e
  have HX := Lib.hid hx
  have HY := Lib.hid hy
  clear hx hy hv
  cases x
  all_goals
    go_enter Tryd.func23, Tryd.ntmps23
    go_wp2_with fail
    refine (kin_is _ _ _ _ HX.out _).mono ?_; rintro e w' ⟨rfl, rfl⟩
    go_wp2_with fail
    first
      | (go_ret; exact ⟨rfl, by go_grown⟩)
      | (refine (kin_is _ _ _ _ HY.out _).mono ?_; rintro e w' ⟨rfl, rfl⟩; go_wp2_with fail; go_ret; exact ⟨rfl, by go_grown⟩)

set_option maxHeartbeats 800000 in
theorem kpitch_is (s a o : Int) (v : Bool) (hv : Pt.pv s a o = v) (w : World) :
    Calls Tryd.prog 37 #[.agg #[.int .i64 s, .int .i64 a, .int .i64 o]] w fun e w' => e = .returned (.bool v) ∧ Below w.heap.size w w' := by
  obtain ⟨x, hx⟩ : ∃ x, (decide (0 ≤ s) && decide (s ≤ 6)) = x := ⟨_, rfl⟩
  obtain ⟨y, hy⟩ : ∃ y, (decide (-4 ≤ a) && decide (a ≤ 4)) = y := ⟨_, rfl⟩
  obtain ⟨z, hz⟩ : ∃ z, (decide (-8 ≤ o) && decide (o ≤ 20)) = z := ⟨_, rfl⟩
  have e : v = (x && y && z) := by
    rw [← hv, ← hx, ← hy, ← hz]; unfold Pt.pv; simp only [Bool.and_assoc]
  subst e
  have HX := Lib.hid hx
  have HY := Lib.hid hy
  have HZ := Lib.hid hz
  clear hx hy hz hv
  cases x <;> cases y
  all_goals
    go_enter Tryd.func37, Tryd.ntmps37
    go_wp2_with fail
    refine (kin_is _ _ _ _ HX.out _).mono ?_; rintro e w' ⟨rfl, rfl⟩
    go_wp2_with fail
    first
      | (go_ret; exact ⟨rfl, by go_grown⟩)
      | (refine (kin_is _ _ _ _ HY.out _).mono ?_; rintro e w' ⟨rfl, rfl⟩; go_wp2_with fail; first | (go_ret; exact ⟨rfl, by go_grown⟩) | (refine (kin_is _ _ _ _ HZ.out _).mono ?_; rintro e w' ⟨rfl, rfl⟩; go_wp2_with fail; go_ret; exact ⟨rfl, by go_grown⟩))

set_option maxHeartbeats 1600000 in
theorem kplace_is (s v : Int) (h : Ky.plc s = v) (w : World) :
    Calls Tryd.prog 49 #[.int .i64 s] w fun e w' => e = .returned (.int .i64 v) ∧ Below w.heap.size w w' := by
  subst h
  by_cases hs : 0 ≤ s ∧ s ≤ 6
  · have c7 : s = 0 ∨ s = 1 ∨ s = 2 ∨ s = 3 ∨ s = 4 ∨ s = 5 ∨ s = 6 := by omega
    clear hs
    rcases c7 with rfl | rfl | rfl | rfl | rfl | rfl | rfl
    all_goals
      go_enter Tryd.func49, Tryd.ntmps49
      go_wp2
      refine wp_loop_rounds 8 ?_
      repeat (rw [rounds_succ]; go_wp2)
      go_ret
      exact ⟨rfl, by go_grown⟩
  · have e : Ky.plc s = 0 := by unfold Ky.plc; (repeat' split) <;> omega
    rw [e]
    have d0 : ((0 : Int) == s) = false := by simp; omega
    have d1 : ((1 : Int) == s) = false := by simp; omega
    have d2 : ((2 : Int) == s) = false := by simp; omega
    have d3 : ((3 : Int) == s) = false := by simp; omega
    have d4 : ((4 : Int) == s) = false := by simp; omega
    have d5 : ((5 : Int) == s) = false := by simp; omega
    have d6 : ((6 : Int) == s) = false := by simp; omega
    clear hs e
    go_enter Tryd.func49, Tryd.ntmps49
    go_wp2
    refine wp_loop_rounds 8 ?_
    repeat (rw [rounds_succ]; go_wp2)
    go_ret
    exact ⟨rfl, by go_grown⟩
end Go.Proofs.YtnjacgjcoikngaaDoor
