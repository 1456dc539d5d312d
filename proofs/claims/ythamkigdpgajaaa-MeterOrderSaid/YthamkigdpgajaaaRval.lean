/- The walks of 'Valid' of package ratio. -/
import Derived.Test.YthamkigdpgajaaaRred
namespace Go.Proofs.Ythamkigdpgajaaa
open Go.RowKit

theorem reduce_any (n d : Int) (w : World) (hn : -9223372036854775807 ≤ n) (hn' : n ≤ 9223372036854775807) (hd : -9223372036854775807 ≤ d) (hd' : d ≤ 9223372036854775807) :
    Calls Try.prog 50 #[.int .i64 n, .int .i64 d] w fun e w' => e = .returned (.tuple #[.agg #[.int .i64 (Rt.redN n d), .int .i64 (Rt.redD n d)], .int .i64 (Rt.redE n d)]) ∧ Below w.heap.size w w' := by
  by_cases h0 : d = 0
  · subst h0
    have e0 : Rt.redE n 0 = 1 := Rt.redE_one.2 rfl
    have e1 := Rt.red_err (n := n) (d := 0) (by omega)
    rw [e0, e1.1, e1.2]
    exact reduce_zero n w
  · exact reduce_big n d w hn hn' hd hd' h0

theorem valid_eq {n d : Int} (hl : Rt.lim n d = true) : (Rt.redN n d == n && Rt.redD n d == d) = Rt.vld n d := by
  have h := Rt.lim_iff.1 hl
  by_cases hv : Rt.vld n d = true
  · have := Rt.red_of (n := n) (d := d) (by omega) hv (Int.mul_comm n d)
    rw [hv, this.2.1, this.2.2]; simp
  · have hv' : Rt.vld n d = false := by simpa using hv
    rw [hv']
    by_cases e : Rt.redE n d = 0
    · have h1 := (Rt.red_ok e).2.1
      by_cases h2 : Rt.redN n d = n
      · by_cases h3 : Rt.redD n d = d
        · rw [h2, h3] at h1; exact absurd h1 hv
        · simp [h3]
      · simp [h2]
    · have h1 := (Rt.red_err e).2
      have h3 : ¬ Rt.redD n d = d := by omega
      simp [h3]

set_option maxHeartbeats 400000 in
theorem valid_lim (n d : Int) (w : World) (h : Rt.lim n d = true) :
    Calls Try.prog 40 #[.agg #[.int .i64 n, .int .i64 d]] w fun e w' => e = .returned (.bool (Rt.redN n d == n && Rt.redD n d == d)) ∧ Below w.heap.size w w' := by
  have hb := Rt.lim_iff.1 h
  have H := Lib.hid h
  have HB := Lib.hid hb
  clear h hb
  go_enter Try.func40, Try.ntmps40
  go_wp2_with fail
  refine (within_yes _ _ _ H.out).mono ?_; rintro e w1 ⟨rfl, hb1⟩
  obtain ⟨hc, hf⟩ := bcell hb1
  have hz1 : w.heap.size < w1.heap.size := by have := hb1.size; simp at this; omega
  go_wp2_with fail
  refine (reduce_any _ _ _ (by have := HB.out; omega) (by have := HB.out; omega) (by have := HB.out; omega) (by have := HB.out; omega)).mono ?_; rintro e w2 ⟨rfl, hb2⟩
  obtain ⟨hc2, hf2⟩ := bcell hb2
  have hz2 : w.heap.size < w2.heap.size := by have := hb2.size; omega
  go_wp2_with fail
  all_goals
    go_ret
    refine ⟨by simp [*], ?_⟩
    exact ((((Below.refl _ _).alloc (Nat.le_refl _) _).trans (hb1.mono (by simp))).trans (hb2.mono (by omega))).alloc (by omega) _

set_option maxHeartbeats 400000 in
theorem valid_out (n d : Int) (w : World) (h : Rt.lim n d = false) :
    Calls Try.prog 40 #[.agg #[.int .i64 n, .int .i64 d]] w fun e w' => e = .returned (.bool false) ∧ Below w.heap.size w w' := by
  have H := Lib.hid h
  clear h
  go_enter Try.func40, Try.ntmps40
  go_wp2_with fail
  refine (within_no _ _ _ H.out).mono ?_; rintro e w1 ⟨rfl, hb1⟩
  go_wp2_with fail
  go_ret
  exact ⟨rfl, ((Below.refl _ _).alloc (Nat.le_refl _) _).trans (hb1.mono (by simp))⟩

/-- 'Valid' at whatever numbers. -/
theorem valid_any (n d : Int) (w : World) :
    Calls Try.prog 40 #[.agg #[.int .i64 n, .int .i64 d]] w fun e w' => e = .returned (.bool (Rt.vld n d)) ∧ Below w.heap.size w w' := by
  by_cases h : Rt.lim n d = true
  · rw [← valid_eq h]; exact valid_lim n d w h
  · have h' : Rt.lim n d = false := by simpa using h
    have e : Rt.vld n d = false := by unfold Rt.vld; rw [h']; rfl
    rw [e]; exact valid_out n d w h'
theorem valid_is (n d : Int) (b : Bool) (hb : Rt.vld n d = b) (w : World) :
    Calls Try.prog 40 #[.agg #[.int .i64 n, .int .i64 d]] w fun e w' => e = .returned (.bool b) ∧ Below w.heap.size w w' := by
  subst hb; exact valid_any n d w
end Go.Proofs.Ythamkigdpgajaaa
