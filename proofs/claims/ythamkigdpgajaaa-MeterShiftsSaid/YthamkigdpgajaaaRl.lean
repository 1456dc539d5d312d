/- The walks of the smallest functions of package ratio. -/
import Derived.Test.YthamkigdpgajaaaMath
import Derived.Test.YthamkigdpgajaaaHelp
namespace Go.Proofs.Ythamkigdpgajaaa
open Go.RowKit

set_option maxHeartbeats 400000 in
theorem between_yes (n a b : Int) (w : World) (h1 : a ≤ n) (h2 : n ≤ b) :
    Calls Try.prog 52 #[.int .i64 n, .int .i64 a, .int .i64 b] w fun e w' => e = .returned (.bool true) ∧ w = w' := by
  go_enter Try.func52, Try.ntmps52
  go_wp2
  go_ret
  exact ⟨rfl, rfl⟩

set_option maxHeartbeats 400000 in
theorem between_no (n a b : Int) (w : World) (h : n < a ∨ b < n) :
    Calls Try.prog 52 #[.int .i64 n, .int .i64 a, .int .i64 b] w fun e w' => e = .returned (.bool false) ∧ w = w' := by
  by_cases h1 : a ≤ n
  · have h2 : b < n := by omega
    have h3 : decide (n ≤ b) = false := by simp; omega
    clear h
    go_enter Try.func52, Try.ntmps52
    go_wp2
    go_ret
    exact ⟨rfl, rfl⟩
  · clear h
    go_enter Try.func52, Try.ntmps52
    go_wp2
    go_ret
    exact ⟨rfl, rfl⟩

def QuietInt (x : Int) (w : World) (e : Ending) (w' : World) : Prop := e = .returned (.int .i64 x) ∧ ∃ m, w' = w.drewN m

set_option maxHeartbeats 400000 in
theorem divisor_any (k : Nat) : ∀ (a b : Int) (w : World) (p : Addr), b.natAbs ≤ k → -9223372036854775807 ≤ a → a ≤ 9223372036854775807 → -9223372036854775807 ≤ b → b ≤ 9223372036854775807 →
    w.cell? p = some (.func (.func 55) #[] #[.pointer (some p)]) →
    Calls Try.prog 55 #[.int .i64 a, .int .i64 b, .pointer (some p)] w (QuietInt (Rt.tgcd a b) w) := by
  induction k with
  | zero =>
    intro a b w p hk _ _ _ _ hc
    have hb : b = 0 := by omega
    subst hb
    have e : Rt.tgcd a 0 = a := by unfold Rt.tgcd; simp
    have E := Lib.hid e; clear e hk
    go_enter Try.func55, Try.ntmps55
    go_wp2_with fail
    go_ret
    exact ⟨by rw [E.out]; rfl, 0, rfl⟩
  | succ k ih =>
    intro a b w p hk ha ha' hb hb' hc
    by_cases h0 : b = 0
    · subst h0
      have e : Rt.tgcd a 0 = a := by unfold Rt.tgcd; simp
      have E := Lib.hid e; clear e hk ih
      go_enter Try.func55, Try.ntmps55
      go_wp2_with fail
      go_ret
      exact ⟨by rw [E.out]; rfl, 0, rfl⟩
    · have e : Rt.tgcd a b = Rt.tgcd b (a.tmod b) := by rw [Rt.tgcd.eq_1 a b]; rw [if_neg h0]
      have E := Lib.hid e; clear e
      have hbb : (b == 0) = false := by simpa using h0
      have hm : (a.tmod b).natAbs < b.natAbs := by rw [Int.natAbs_tmod]; exact Nat.mod_lt _ (by omega)
      have IH := Lib.hid (fun w' hc' => ih b (a.tmod b) w' p (by omega) hb hb' (by omega) (by omega) hc')
      clear ih
      go_enter Try.func55, Try.ntmps55
      go_wp2_with fail
      go_quiet ((go_at_call 55; exact Calls.quiet_of (IH.out _ hc)))
      go_wp2_with fail
      go_ret
      exact ⟨by rw [E.out]; rfl, _, rfl⟩

end Go.Proofs.Ythamkigdpgajaaa
