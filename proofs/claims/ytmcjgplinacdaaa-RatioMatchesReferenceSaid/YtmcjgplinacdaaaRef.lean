/- The walks of the reference's smallest functions: abs, gcd, Valid. -/
import Derived.Test.YtmcjgplinacdaaaLeaf
import Derived.Handy
namespace Go.Proofs.Ytmcjgplinacdaaa
open Go.RowKit

set_option maxHeartbeats 400000 in
theorem abs_any (n : Int) (w : World) (h : -9223372036854775807 ≤ n) (h' : n ≤ 9223372036854775807) :
    Calls Try.prog 36 #[.int .i64 n] w fun e w' => e = .returned (.int .i64 (n.natAbs : Int)) ∧ w = w' := by
  by_cases h0 : n < 0
  · have e : ((n.natAbs : Nat) : Int) = -n := by omega
    rw [e]; clear e
    go_enter Try.func36, Try.ntmps36
    go_wp2
    go_ret
    exact ⟨rfl, rfl⟩
  · have e : ((n.natAbs : Nat) : Int) = n := by omega
    rw [e]; clear e
    go_enter Try.func36, Try.ntmps36
    go_wp2
    go_ret
    exact ⟨rfl, rfl⟩

theorem gcd_step (a b : Nat) : Nat.gcd b (a % b) = Nat.gcd a b := by
  rw [Nat.gcd_comm, ← Nat.gcd_rec, Nat.gcd_comm]

set_option maxHeartbeats 400000 in
theorem gcd_any (a b : Nat) (w : World) (ha : a ≤ 9223372036854775807) (hb : b ≤ 9223372036854775807) :
    Calls Try.prog 35 #[.int .i64 a, .int .i64 b] w fun e w' => e = .returned (.int .i64 (Nat.gcd a b : Nat)) ∧ w = w' := by
  go_enter Try.func35, Try.ntmps35
  go_wp2
  go_loop [0, 1, 5] (fun s0 s1 _ => ∃ x y : Nat, x ≤ 9223372036854775807 ∧ y ≤ 9223372036854775807 ∧ s0 = .int .i64 x ∧ s1 = .int .i64 y ∧ Hid (Nat.gcd x y = Nat.gcd a b)) (fun _ s1 _ => (intOf s1).toNat)
  case atStart => exact ⟨a, b, ha, hb, rfl, rfl, Lib.hid rfl⟩
  case round =>
    obtain ⟨x, y, hx, hy, rfl, rfl, HG⟩ := hrel
    by_cases h0 : y = 0
    · subst h0
      go_wp2
      go_ret
      exact ⟨by rw [← HG.out]; simp, rfl⟩
    · have h1 : 0 < y := by omega
      have h2 : x % y < y := Nat.mod_lt _ h1
      have h3 : ¬ ((y : Int) = 0) := by omega
      have h4 : ((y : Int) != 0) = true := by simpa using h0
      go_wp2
      go_round
      case rel => exact ⟨y, x % y, by omega, by omega, rfl, by simp, Lib.hid ((gcd_step x y).trans HG.out)⟩
      case measure => simp [intOf]; omega
end Go.Proofs.Ytmcjgplinacdaaa
