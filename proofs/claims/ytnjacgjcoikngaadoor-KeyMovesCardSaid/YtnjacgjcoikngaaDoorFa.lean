/- The walks of pitch's small functions. -/
import Derived.Test.YtnjacgjcoikngaaDoorTail
import Derived.Test.YtnjacgjcoikngaaDoorPm
namespace Go.Proofs.YtnjacgjcoikngaaDoor
open Go.RowKit

def nr (n a b : Int) : Int := min (max n a) b
theorem nr_eq {n a b : Int} (h : a ≤ b) : nr n a b = n ↔ a ≤ n ∧ n ≤ b := by unfold nr; omega

set_option maxHeartbeats 400000 in
theorem nearest_any (n a b : Int) (w : World) :
    Calls Tryd.prog 50 #[.int .i64 n, .int .i64 a, .int .i64 b] w fun e w' => e = .returned (.int .i64 (nr n a b)) ∧ w = w' := by
  have e : nr n a b = if b < (if n < a then a else n) then b else (if n < a then a else n) := by unfold nr; split <;> split <;> omega
  rw [e]; clear e
  by_cases h1 : n < a
  · by_cases h2 : b < a
    all_goals
      go_enter Tryd.func50, Tryd.ntmps50
      go_wp2
      go_ret
      exact ⟨rfl, rfl⟩
  · by_cases h2 : b < n
    all_goals
      go_enter Tryd.func50, Tryd.ntmps50
      go_wp2
      go_ret
      exact ⟨rfl, rfl⟩
theorem nearest_is (n a b v : Int) (h : nr n a b = v) (w : World) :
    Calls Tryd.prog 50 #[.int .i64 n, .int .i64 a, .int .i64 b] w fun e w' => e = .returned (.int .i64 v) ∧ w = w' := h ▸ nearest_any n a b w

set_option maxHeartbeats 800000 in
theorem valid_is (s a o : Int) (v : Bool) (hv : Pt.pv s a o = v) (w : World) :
    Calls Tryd.prog 34 #[.agg #[.int .i64 s, .int .i64 a, .int .i64 o]] w fun e w' => e = .returned (.bool v) ∧ Below w.heap.size w w' := by
  obtain ⟨x, hx⟩ : ∃ x, nr s 0 6 = x := ⟨_, rfl⟩
  obtain ⟨y, hy⟩ : ∃ y, nr a (-4) 4 = y := ⟨_, rfl⟩
  obtain ⟨z, hz⟩ : ∃ z, nr o (-8) 20 = z := ⟨_, rfl⟩
  have e : v = (decide (s = x) && decide (a = y) && decide (o = z)) := by
    rw [← hv, Bool.eq_iff_iff, Pt.pv_iff, ← hx, ← hy, ← hz]
    simp only [Bool.and_eq_true, decide_eq_true_eq]
    rw [eq_comm (a := s), eq_comm (a := a), eq_comm (a := o), nr_eq (by omega), nr_eq (by omega), nr_eq (by omega)]
    omega
  have HX := Lib.hid hx
  have HY := Lib.hid hy
  have HZ := Lib.hid hz
  clear hx hy hz hv
  by_cases h1 : s = x <;> by_cases h2 : a = y <;> by_cases h3 : o = z
  all_goals
    simp only [h1, h2, h3, decide_true, decide_false, Bool.and_true, Bool.and_false] at e
    subst e
    try subst h1
    try subst h2
    try subst h3
    go_enter Tryd.func34, Tryd.ntmps34
    go_wp2_with fail
    go_quiet ((go_at_call 50; first | (with_reducible exact quiet_left (nearest_is _ _ _ _ HX.out _)) | (with_reducible exact quiet_left (nearest_is _ _ _ _ HY.out _)) | (with_reducible exact quiet_left (nearest_is _ _ _ _ HZ.out _))))
    go_wp2_with fail
    go_ret
    exact ⟨rfl, below_drewN (by go_grown) _⟩
end Go.Proofs.YtnjacgjcoikngaaDoor
