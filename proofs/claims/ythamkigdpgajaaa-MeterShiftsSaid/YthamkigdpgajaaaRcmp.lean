/- The walk of ratio.Compare. -/
import Derived.Test.YthamkigdpgajaaaRop
namespace Go.Proofs.Ythamkigdpgajaaa
open Go.RowKit

def Rt.cmpI (x y : Int) : Int := if x < y then -1 else if y < x then 1 else 0

set_option maxHeartbeats 400000 in
theorem isNaN_any (n : Int) (w : World) :
    Calls Try.prog 51 #[.int .i64 n] w fun e w' => e = .returned (.bool false) ∧ w = w' := by
  have h : (n != n) = false := by simp
  go_enter Try.func51, Try.ntmps51
  go_wp2
  go_ret
  exact ⟨rfl, rfl⟩

set_option maxHeartbeats 400000 in
theorem compare_int (x y : Int) (w : World) :
    Calls Try.prog 41 #[.int .i64 x, .int .i64 y] w fun e w' => e = .returned (.int .i64 (Rt.cmpI x y)) ∧ w = w' := by
  by_cases h1 : x < y
  · have e : Rt.cmpI x y = -1 := by unfold Rt.cmpI; rw [if_pos h1]
    rw [e]; clear e
    go_enter Try.func41, Try.ntmps41
    go_wp2_with (go_at_call 51; refine (isNaN_any _ _).mono ?_; rintro e w' ⟨rfl, rfl⟩)
    go_ret
    exact ⟨rfl, rfl⟩
  · by_cases h2 : y < x
    · have e : Rt.cmpI x y = 1 := by unfold Rt.cmpI; rw [if_neg h1, if_pos h2]
      rw [e]; clear e
      go_enter Try.func41, Try.ntmps41
      go_wp2_with (go_at_call 51; refine (isNaN_any _ _).mono ?_; rintro e w' ⟨rfl, rfl⟩)
      go_ret
      exact ⟨rfl, rfl⟩
    · have e : Rt.cmpI x y = 0 := by unfold Rt.cmpI; rw [if_neg h1, if_neg h2]
      rw [e]; clear e
      go_enter Try.func41, Try.ntmps41
      go_wp2_with (go_at_call 51; refine (isNaN_any _ _).mono ?_; rintro e w' ⟨rfl, rfl⟩)
      go_ret
      exact ⟨rfl, rfl⟩

def Rt.cmpV (ok : Bool) (x y : Int) : Int := if ok = true then Rt.cmpI x y else 0
def Rt.cmpE (ok : Bool) : Int := if ok = true then 0 else 1

set_option maxHeartbeats 400000 in
theorem compare_any (a b c d : Int) (w : World) :
    Calls Try.prog 23 #[.agg #[.int .i64 a, .int .i64 b], .agg #[.int .i64 c, .int .i64 d]] w fun e w' =>
      e = .returned (.tuple #[.int .i64 (Rt.cmpV (Rt.vld a b && Rt.vld c d) (a * d) (c * b)), .int .i64 (Rt.cmpE (Rt.vld a b && Rt.vld c d))]) ∧ Below w.heap.size w w' := by
  by_cases hv1 : Rt.vld a b = true
  · by_cases hv2 : Rt.vld c d = true
    · rw [hv1, hv2]
      obtain ⟨h1, h2, h3, h4⟩ := Rt.vld_lim hv1
      obtain ⟨h5, h6, h7, h8⟩ := Rt.vld_lim hv2
      obtain ⟨⟨p1, p2⟩, ⟨p3, p4⟩, _⟩ := muls_in a b c d h1 h2 h3 h4 h5 h6 h7 h8
      have HV1 := Lib.hid hv1
      have HV2 := Lib.hid hv2
      clear hv1 hv2
      go_enter Try.func23, Try.ntmps23
      go_wp2_with fail
      refine (valid_is _ _ _ HV1.out _).mono ?_; rintro e w1 ⟨rfl, hb1⟩
      obtain ⟨hc1, hf1⟩ := bcell hb1
      have hz1 : w.heap.size + 1 < w1.heap.size ∨ w.heap.size + 1 + 1 ≤ w1.heap.size := by have := hb1.size; simp at this; omega
      clear hz1
      go_wp2_with fail
      refine (valid_is _ _ _ HV2.out _).mono ?_; rintro e w2 ⟨rfl, hb2'⟩
      have hb2 := hb1.trans (hb2'.mono hb1.size); clear hc1 hf1 hb1 hb2'
      obtain ⟨hc2, hf2⟩ := bcell hb2
      go_wp2_with fail
      refine (compare_int _ _ _).mono ?_; rintro e w3 ⟨rfl, rfl⟩
      go_wp2_with fail
      go_ret2
      exact ⟨rfl, (((Below.refl _ _).alloc (Nat.le_refl _) _).alloc (by simp) _).trans (hb2.mono (by simp; omega))⟩
    · have hv2' : Rt.vld c d = false := by simpa using hv2
      rw [hv1, hv2']
      have HV1 := Lib.hid hv1
      have HV2 := Lib.hid hv2'
      clear hv1 hv2 hv2'
      go_enter Try.func23, Try.ntmps23
      go_wp2_with fail
      refine (valid_is _ _ _ HV1.out _).mono ?_; rintro e w1 ⟨rfl, hb1⟩
      obtain ⟨hc1, hf1⟩ := bcell hb1
      go_wp2_with fail
      refine (valid_is _ _ _ HV2.out _).mono ?_; rintro e w2 ⟨rfl, hb2'⟩
      have hb2 := hb1.trans (hb2'.mono hb1.size); clear hc1 hf1 hb1 hb2'
      go_wp2_with fail
      go_ret2
      exact ⟨rfl, (((Below.refl _ _).alloc (Nat.le_refl _) _).alloc (by simp) _).trans (hb2.mono (by simp; omega))⟩
  · have hv1' : Rt.vld a b = false := by simpa using hv1
    rw [hv1']
    have HV1 := Lib.hid hv1'
    clear hv1 hv1'
    go_enter Try.func23, Try.ntmps23
    go_wp2_with fail
    refine (valid_is _ _ _ HV1.out _).mono ?_; rintro e w1 ⟨rfl, hb1⟩
    go_wp2_with fail
    go_ret2
    exact ⟨rfl, (((Below.refl _ _).alloc (Nat.le_refl _) _).alloc (by simp) _).trans (hb1.mono (by simp; omega))⟩

def Rt.cmpR (a b c d : Int) : Int × Int := (Rt.cmpV (Rt.vld a b && Rt.vld c d) (a * d) (c * b), Rt.cmpE (Rt.vld a b && Rt.vld c d))
theorem compare_is (a b c d V E : Int) (h : Rt.cmpR a b c d = (V, E)) (w : World) :
    Calls Try.prog 23 #[.agg #[.int .i64 a, .int .i64 b], .agg #[.int .i64 c, .int .i64 d]] w fun e w' =>
      e = .returned (.tuple #[.int .i64 V, .int .i64 E]) ∧ Below w.heap.size w w' := by
  obtain ⟨rfl, rfl⟩ : Rt.cmpV (Rt.vld a b && Rt.vld c d) (a * d) (c * b) = V ∧ Rt.cmpE (Rt.vld a b && Rt.vld c d) = E := by simpa [Rt.cmpR] using h
  exact compare_any a b c d w

end Go.Proofs.Ythamkigdpgajaaa
