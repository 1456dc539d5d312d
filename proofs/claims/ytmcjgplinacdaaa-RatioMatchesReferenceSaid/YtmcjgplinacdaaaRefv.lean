/- The walks of the reference's Valid, Duration, reduce and both. -/
import Derived.Test.YtmcjgplinacdaaaRef
import Derived.RegionTactic
import Derived.Deep.DeepCutAuto
namespace Go.Proofs.Ytmcjgplinacdaaa
open Go.RowKit

theorem quiet_left {P : Program} {f : FuncId} {args : Array Value} {w : World} {n : Nat} {v : Value}
    (h : Calls P f args (w.drewN n) fun e w' => e = .returned v ∧ w.drewN n = w') : Calls P f args (w.drewN n) fun e w'' => e = .returned v ∧ ∃ m, w'' = w.drewN m :=
  h.mono fun _ _ ⟨he, hm⟩ => ⟨he, n, hm.symm⟩

theorem abs_is (n k : Int) (hk : ((n.natAbs : Nat) : Int) = k) (w : World) (h : -9223372036854775807 ≤ n) (h' : n ≤ 9223372036854775807) :
    Calls Try.prog 36 #[.int .i64 n] w fun e w' => e = .returned (.int .i64 k) ∧ w = w' := by
  subst hk; exact abs_any n w h h'
theorem gcd_int (a b : Int) (w : World) (ha : 0 ≤ a) (ha' : a ≤ 9223372036854775807) (hb : 0 ≤ b) (hb' : b ≤ 9223372036854775807) :
    Calls Try.prog 35 #[.int .i64 a, .int .i64 b] w fun e w' => e = .returned (.int .i64 (Int.gcd a b : Nat)) ∧ w = w' := by
  have h := gcd_any a.natAbs b.natAbs w (by omega) (by omega)
  rw [Int.natAbs_of_nonneg ha, Int.natAbs_of_nonneg hb] at h
  exact h

set_option maxHeartbeats 400000 in
theorem rvalid_lim (n d : Int) (w : World) (h : Rt.lim n d = true) :
    Calls Try.prog 14 #[.agg #[.int .i64 n, .int .i64 d]] w fun e w' => e = .returned (.bool (((Int.gcd n d : Nat) : Int) == 1)) ∧ Below w.heap.size w w' := by
  obtain ⟨h1, h2, h3, h4⟩ := Rt.lim_iff.1 h
  clear h
  have e0 : Int.gcd ((n.natAbs : Nat) : Int) d = Int.gcd n d := by simp [Int.gcd]
  have E := Lib.hid e0; clear e0
  have C : ∀ w', Calls Try.prog 35 #[.int .i64 ((n.natAbs : Nat) : Int), .int .i64 d] w' fun e w'' => e = .returned (.int .i64 (Int.gcd n d : Nat)) ∧ w' = w'' := by
    intro w'
    rw [← E.out]
    exact gcd_int _ _ w' (by omega) (by omega) (by omega) (by omega)
  have CH := Lib.hid C; clear C
  go_enter Try.func14, Try.ntmps14
  go_wp2_with fail
  go_quiet ((first | (go_at_call 36; exact quiet_left (abs_any n _ (by omega) (by omega))) | (go_at_call 35; exact quiet_left (CH.out _))))
  go_wp2_with fail
  go_ret
  exact ⟨rfl, below_drewN (by go_grown) _⟩

set_option maxHeartbeats 400000 in
theorem rvalid_out (n d : Int) (w : World) (h : Rt.lim n d = false) :
    Calls Try.prog 14 #[.agg #[.int .i64 n, .int .i64 d]] w fun e w' => e = .returned (.bool false) ∧ Below w.heap.size w w' := by
  have h' := Rt.lim_no h
  clear h
  by_cases a1 : d < 1
  · clear h'
    go_enter Try.func14, Try.ntmps14
    go_wp2_with fail
    go_ret
    exact ⟨rfl, by go_grown⟩
  · by_cases a2 : 1000000 < d
    · clear h'
      go_enter Try.func14, Try.ntmps14
      go_wp2_with fail
      go_ret
      exact ⟨rfl, by go_grown⟩
    · by_cases a3 : n < -1000000000
      · clear h'
        go_enter Try.func14, Try.ntmps14
        go_wp2_with fail
        go_ret
        exact ⟨rfl, by go_grown⟩
      · have a4 : 1000000000 < n := by omega
        clear h'
        go_enter Try.func14, Try.ntmps14
        go_wp2_with fail
        go_ret
        exact ⟨rfl, by go_grown⟩

theorem rvalid_any (n d : Int) (w : World) :
    Calls Try.prog 14 #[.agg #[.int .i64 n, .int .i64 d]] w fun e w' => e = .returned (.bool (Rt.vld n d)) ∧ Below w.heap.size w w' := by
  by_cases h : Rt.lim n d = true
  · have e : Rt.vld n d = (((Int.gcd n d : Nat) : Int) == 1) := by
      unfold Rt.vld; rw [h, Bool.true_and, Bool.eq_iff_iff]; simp; omega
    rw [e]; exact rvalid_lim n d w h
  · have h' : Rt.lim n d = false := by simpa using h
    have e : Rt.vld n d = false := by unfold Rt.vld; rw [h']; rfl
    rw [e]; exact rvalid_out n d w h'
theorem rvalid_is (n d : Int) (b : Bool) (hb : Rt.vld n d = b) (w : World) :
    Calls Try.prog 14 #[.agg #[.int .i64 n, .int .i64 d]] w fun e w' => e = .returned (.bool b) ∧ Below w.heap.size w w' := by
  subst hb; exact rvalid_any n d w

/-- Is it a duration? -/
def Rt.dur (n d : Int) : Bool := Rt.vld n d && decide (0 ≤ n) && decide ((1680 : Int) % d = 0)

set_option maxHeartbeats 400000 in
theorem duration_is (n d : Int) (b : Bool) (hb : Rt.dur n d = b) (w : World) :
    Calls Try.prog 30 #[.agg #[.int .i64 n, .int .i64 d]] w fun e w' => e = .returned (.bool b) ∧ Below w.heap.size w w' := by
  subst hb
  by_cases hv : Rt.vld n d = true
  · obtain ⟨h1, h2, h3, h4⟩ := Rt.vld_lim hv
    have e : Rt.dur n d = (decide (0 ≤ n) && decide ((1680 : Int) % d = 0)) := by unfold Rt.dur; rw [hv, Bool.true_and]
    have HV := Lib.hid hv
    clear hv
    by_cases h5 : 0 ≤ n
    · have E : Hid (Rt.dur n d = ((1680 : Int) % d == 0)) := Lib.hid (by rw [e]; simp [h5]; rw [Bool.eq_iff_iff]; simp)
      clear e
      rw [E.out]
      have h7 : ¬ d = 0 := by omega
      have h8 : (d == 0) = false := by simpa using h7
      go_enter Try.func30, Try.ntmps30
      go_wp2_with fail
      refine (rvalid_is _ _ _ HV.out _).mono ?_; rintro e w1 ⟨rfl, hb1⟩
      obtain ⟨hc1, hf1⟩ := bcell hb1
      go_wp2_with fail
      go_ret
      exact ⟨rfl, ((Below.refl _ _).alloc (Nat.le_refl _) _).trans (hb1.mono (by simp))⟩
    · have E : Hid (Rt.dur n d = false) := Lib.hid (by rw [e]; simp [h5])
      clear e
      rw [E.out]
      have h9 : decide (0 ≤ n) = false := by simpa using h5
      go_enter Try.func30, Try.ntmps30
      go_wp2_with fail
      refine (rvalid_is _ _ _ HV.out _).mono ?_; rintro e w1 ⟨rfl, hb1⟩
      obtain ⟨hc1, hf1⟩ := bcell hb1
      go_wp2_with fail
      go_ret
      exact ⟨rfl, ((Below.refl _ _).alloc (Nat.le_refl _) _).trans (hb1.mono (by simp))⟩
  · have hv' : Rt.vld n d = false := by simpa using hv
    have e : Rt.dur n d = false := by unfold Rt.dur; rw [hv']; rfl
    rw [e]
    have HV := Lib.hid hv'
    clear hv hv' e
    go_enter Try.func30, Try.ntmps30
    go_wp2_with fail
    refine (rvalid_is _ _ _ HV.out _).mono ?_; rintro e w1 ⟨rfl, hb1⟩
    go_wp2_with fail
    go_ret
    exact ⟨rfl, ((Below.refl _ _).alloc (Nat.le_refl _) _).trans (hb1.mono (by simp))⟩

set_option maxHeartbeats 400000 in
theorem both_is (a b c d : Int) (x y : Bool) (hx : Rt.vld a b = x) (hy : Rt.vld c d = y) (w : World) :
    Calls Try.prog 39 #[.agg #[.int .i64 a, .int .i64 b], .agg #[.int .i64 c, .int .i64 d]] w fun e w' => e = .returned (.bool (x && y)) ∧ Below w.heap.size w w' := by
  have HX := Lib.hid hx
  have HY := Lib.hid hy
  clear hx hy
  cases x
  all_goals
    go_enter Try.func39, Try.ntmps39
    go_wp2_with fail
    refine (rvalid_is _ _ _ HX.out _).mono ?_; rintro e w1 ⟨rfl, hb1⟩
    obtain ⟨hc1, hf1⟩ := bcell hb1
    go_wp2_with fail
    refine (rvalid_is _ _ _ HY.out _).mono ?_; rintro e w2 ⟨rfl, hb2'⟩
    have hb2 := hb1.trans (hb2'.mono hb1.size); clear hc1 hf1 hb1 hb2'
    go_wp2_with fail
    go_ret
    exact ⟨rfl, (((Below.refl _ _).alloc (Nat.le_refl _) _).alloc (by simp) _).trans (hb2.mono (by simp; omega))⟩
end Go.Proofs.Ytmcjgplinacdaaa
