/- The walks of limit's Between, IsID. -/
import Derived.Test.YthamkigdpgajaaaTail
namespace Go.Proofs.Ythamkigdpgajaaa
open Go.RowKit

set_option maxHeartbeats 400000 in
theorem tbetween_is (n lo hi : Int) (f : Bool) (h : decide (lo ≤ n ∧ n ≤ hi) = f) (w : World) :
    Calls Try.prog 46 #[.int .i64 n, .int .i64 lo, .int .i64 hi] w fun e w' => e = .returned (.bool f) ∧ Below w.heap.size w w' := by
  by_cases h1 : n ≥ lo
  · by_cases h2 : n ≤ hi
    · obtain rfl : f = true := by rw [← h]; exact decide_eq_true ⟨h1, h2⟩
      clear h
      go_enter Try.func46, Try.ntmps46
      go_wp2_with fail
      go_ret
      exact ⟨rfl, Below.refl _ _⟩
    · obtain rfl : f = false := by rw [← h]; exact decide_eq_false (fun e => h2 e.2)
      clear h
      go_enter Try.func46, Try.ntmps46
      go_wp2_with fail
      go_ret
      exact ⟨rfl, Below.refl _ _⟩
  · obtain rfl : f = false := by rw [← h]; exact decide_eq_false (fun e => h1 e.1)
    clear h
    go_enter Try.func46, Try.ntmps46
    go_wp2_with fail
    go_ret
    exact ⟨rfl, Below.refl _ _⟩

set_option maxHeartbeats 400000 in
theorem tisid_is (n : Int) (f : Bool) (h : decide (1 ≤ n ∧ n ≤ 1000000) = f) (w : World) :
    Calls Try.prog 45 #[.int .i64 n] w fun e w' => e = .returned (.bool f) ∧ Below w.heap.size w w' := by
  have H := Lib.hid h
  clear h
  go_enter Try.func45, Try.ntmps45
  go_wp2_with fail
  refine (tbetween_is n 1 1000000 f H.out _).mono ?_; rintro e w1 ⟨rfl, hb⟩
  go_wp2_with fail
  go_ret
  exact ⟨rfl, hb⟩

end Go.Proofs.Ythamkigdpgajaaa
