/- The walk of ratio.Add. -/
import Derived.Test.YthamkigdpgajaaaRop
namespace Go.Proofs.Ythamkigdpgajaaa
open Go.RowKit

set_option maxHeartbeats 400000 in
theorem add_op (a b c d : Int) (w : World) (h1 : -1000000000 ≤ a) (h2 : a ≤ 1000000000) (h3 : 1 ≤ b) (h4 : b ≤ 1000000) (h5 : -1000000000 ≤ c) (h6 : c ≤ 1000000000) (h7 : 1 ≤ d) (h8 : d ≤ 1000000) :
    Calls Try.prog 43 #[.agg #[.int .i64 a, .int .i64 b], .agg #[.int .i64 c, .int .i64 d]] w fun e w' => e = .returned (.tuple #[.int .i64 (a * d + c * b), .int .i64 (b * d)]) ∧ Below w.heap.size w w' := by
  obtain ⟨⟨p1, p2⟩, ⟨p3, p4⟩, ⟨p5, p6⟩, ⟨p7, p8⟩, ⟨p9, p10⟩⟩ := muls_in a b c d h1 h2 h3 h4 h5 h6 h7 h8
  go_enter Try.func43, Try.ntmps43
  go_wp2_with fail
  go_quiet (fail)
  go_wp2_with fail
  go_ret2
  exact ⟨rfl, below_drewN (by go_grown) _⟩

set_option maxHeartbeats 400000 in
theorem add_combine (a b c d : Int) (w : World) :
    Calls Try.prog 42 #[.agg #[.int .i64 a, .int .i64 b], .agg #[.int .i64 c, .int .i64 d], .func (.func 43) #[] #[]] w fun e w' =>
      e = .returned (.tuple #[.agg #[.int .i64 (Rt.opN (Rt.vld a b && Rt.vld c d) (a * d + c * b) (b * d)), .int .i64 (Rt.opD (Rt.vld a b && Rt.vld c d) (a * d + c * b) (b * d))], .int .i64 (Rt.opE (Rt.vld a b && Rt.vld c d) (a * d + c * b) (b * d))]) ∧ Below w.heap.size w w' := by
  by_cases hv1 : Rt.vld a b = true
  · by_cases hv2 : Rt.vld c d = true
    · rw [hv1, hv2]
      obtain ⟨h1, h2, h3, h4⟩ := Rt.vld_lim hv1
      obtain ⟨h5, h6, h7, h8⟩ := Rt.vld_lim hv2
      have HM := Lib.hid (muls_in a b c d h1 h2 h3 h4 h5 h6 h7 h8)
      have HV1 := Lib.hid hv1
      have HV2 := Lib.hid hv2
      clear hv1 hv2
      go_enter Try.func42, Try.ntmps42
      go_wp2_with fail
      refine (valid_is _ _ _ HV1.out _).mono ?_; rintro e w1 ⟨rfl, hb1⟩
      obtain ⟨hc1, hf1⟩ := bcell hb1
      have hz1 : w.heap.size + 1 + 1 < w1.heap.size := by have := hb1.size; simp at this; omega
      go_wp2_with fail
      refine (valid_is _ _ _ HV2.out _).mono ?_; rintro e w2 ⟨rfl, hb2'⟩
      have hb2 := hb1.trans (hb2'.mono hb1.size); clear hc1 hf1 hb1 hb2'
      obtain ⟨hc2, hf2⟩ := bcell hb2
      have hz2 : w.heap.size + 1 + 1 < w2.heap.size := by have := hb2.size; simp at this; omega
      go_wp2_with fail
      refine (add_op a b c d _ h1 h2 h3 h4 h5 h6 h7 h8).mono ?_; rintro e w3 ⟨rfl, hb3'⟩
      have hb3 := hb2.trans (hb3'.mono hb2.size); clear hc2 hf2 hb2 hb3'
      obtain ⟨hc3, hf3⟩ := bcell hb3
      have hz3 : w.heap.size + 1 + 1 < w3.heap.size := by have := hb3.size; simp at this; omega
      go_wp2_with fail
      refine (reduce_any _ _ _ (by have := HM.out; omega) (by have := HM.out; omega) (by have := HM.out; omega) (by have := HM.out; omega)).mono ?_; rintro e w4 ⟨rfl, hb4'⟩
      have hb4 := hb3.trans (hb4'.mono hb3.size); clear hc3 hf3 hb3 hb4'
      obtain ⟨hc4, hf4⟩ := bcell hb4
      have hz4 : w.heap.size + 1 + 1 < w4.heap.size := by have := hb4.size; simp at this; omega
      have q0 : w4.cell? ⟨w.heap.size + 1 + 1, 0, none⟩ = some (.int .i64 0) := by rw [hc4 _ _ (by simp)]; go_simp
      have q1 : w4.cell? ⟨w.heap.size + 1 + 1, 1, none⟩ = some (.int .i64 0) := by rw [hc4 _ _ (by simp)]; go_simp
      go_wp2_with fail
      refine bodyPost_ret (v := .tuple #[.agg #[.int .i64 (Rt.redN (a * d + c * b) (b * d)), .int .i64 (Rt.redD (a * d + c * b) (b * d))], .int .i64 (Rt.redE (a * d + c * b) (b * d))]) (by simp [results, Try.results42, go_sem, q0, q1]) rfl ⟨rfl, ?_⟩
      exact ((((((Below.refl _ _).alloc (Nat.le_refl _) _).alloc (by simp) _).alloc (by simp; omega) _).trans (hb4.mono (by simp; omega))).setCell (by simp; omega) _).setCell (by simp; omega) _
    · have hv2' : Rt.vld c d = false := by simpa using hv2
      rw [hv1, hv2']
      have HV1 := Lib.hid hv1
      have HV2 := Lib.hid hv2'
      clear hv1 hv2 hv2'
      go_enter Try.func42, Try.ntmps42
      go_wp2_with fail
      refine (valid_is _ _ _ HV1.out _).mono ?_; rintro e w1 ⟨rfl, hb1⟩
      obtain ⟨hc1, hf1⟩ := bcell hb1
      have hz1 : w.heap.size + 1 + 1 < w1.heap.size := by have := hb1.size; simp at this; omega
      go_wp2_with fail
      refine (valid_is _ _ _ HV2.out _).mono ?_; rintro e w2 ⟨rfl, hb2'⟩
      have hb4 := hb1.trans (hb2'.mono hb1.size); clear hc1 hf1 hb1 hb2'
      obtain ⟨hc4, hf4⟩ := bcell hb4
      have hz2 : w.heap.size + 1 + 1 < w2.heap.size := by have := hb4.size; simp at this; omega
      have q0 : w2.cell? ⟨w.heap.size + 1 + 1, 0, none⟩ = some (.int .i64 0) := by rw [hc4 _ _ (by simp)]; go_simp
      have q1 : w2.cell? ⟨w.heap.size + 1 + 1, 1, none⟩ = some (.int .i64 0) := by rw [hc4 _ _ (by simp)]; go_simp
      go_wp2_with fail
      refine bodyPost_ret (v := .tuple #[.agg #[.int .i64 0, .int .i64 0], .int .i64 1]) (by simp [results, Try.results42, go_sem, q0, q1]) rfl ⟨rfl, ?_⟩
      exact ((((((Below.refl _ _).alloc (Nat.le_refl _) _).alloc (by simp) _).alloc (by simp; omega) _).trans (hb4.mono (by simp; omega))).setCell (by simp; omega) _).setCell (by simp; omega) _
  · have hv1' : Rt.vld a b = false := by simpa using hv1
    rw [hv1']
    have HV1 := Lib.hid hv1'
    clear hv1 hv1'
    go_enter Try.func42, Try.ntmps42
    go_wp2_with fail
    refine (valid_is _ _ _ HV1.out _).mono ?_; rintro e w2 ⟨rfl, hb4⟩
    obtain ⟨hc4, hf4⟩ := bcell hb4
    have hz2 : w.heap.size + 1 + 1 < w2.heap.size := by have := hb4.size; simp at this; omega
    have q0 : w2.cell? ⟨w.heap.size + 1 + 1, 0, none⟩ = some (.int .i64 0) := by rw [hc4 _ _ (by simp)]; go_simp
    have q1 : w2.cell? ⟨w.heap.size + 1 + 1, 1, none⟩ = some (.int .i64 0) := by rw [hc4 _ _ (by simp)]; go_simp
    go_wp2_with fail
    refine bodyPost_ret (v := .tuple #[.agg #[.int .i64 0, .int .i64 0], .int .i64 1]) (by simp [results, Try.results42, go_sem, q0, q1]) rfl ⟨rfl, ?_⟩
    exact ((((((Below.refl _ _).alloc (Nat.le_refl _) _).alloc (by simp) _).alloc (by simp; omega) _).trans (hb4.mono (by simp; omega))).setCell (by simp; omega) _).setCell (by simp; omega) _

set_option maxHeartbeats 400000 in
/-- 'Add' at whatever numbers. -/
theorem add_any (a b c d : Int) (w : World) :
    Calls Try.prog 25 #[.agg #[.int .i64 a, .int .i64 b], .agg #[.int .i64 c, .int .i64 d]] w fun e w' =>
      e = .returned (.tuple #[.agg #[.int .i64 (Rt.opN (Rt.vld a b && Rt.vld c d) (a * d + c * b) (b * d)), .int .i64 (Rt.opD (Rt.vld a b && Rt.vld c d) (a * d + c * b) (b * d))], .int .i64 (Rt.opE (Rt.vld a b && Rt.vld c d) (a * d + c * b) (b * d))]) ∧ Below w.heap.size w w' := by
  go_enter Try.func25, Try.ntmps25
  go_wp2_with fail
  refine (add_combine a b c d _).mono ?_; rintro e w2 ⟨rfl, hb4⟩
  obtain ⟨hc4, hf4⟩ := bcell hb4
  have hz2 : w.heap.size + 1 + 1 < w2.heap.size := by have := hb4.size; simp at this; omega
  have q0 : w2.cell? ⟨w.heap.size + 1 + 1, 0, none⟩ = some (.int .i64 0) := by rw [hc4 _ _ (by simp)]; go_simp
  have q1 : w2.cell? ⟨w.heap.size + 1 + 1, 1, none⟩ = some (.int .i64 0) := by rw [hc4 _ _ (by simp)]; go_simp
  go_wp2_with fail
  refine bodyPost_ret (v := .tuple #[.agg #[.int .i64 (Rt.opN (Rt.vld a b && Rt.vld c d) (a * d + c * b) (b * d)), .int .i64 (Rt.opD (Rt.vld a b && Rt.vld c d) (a * d + c * b) (b * d))], .int .i64 (Rt.opE (Rt.vld a b && Rt.vld c d) (a * d + c * b) (b * d))]) (by simp [results, Try.results25, go_sem, q0, q1]) rfl ⟨rfl, ?_⟩
  exact ((((((Below.refl _ _).alloc (Nat.le_refl _) _).alloc (by simp) _).alloc (by simp; omega) _).trans (hb4.mono (by simp; omega))).setCell (by simp; omega) _).setCell (by simp; omega) _

/-- The numbers and the error of 'Add'. -/
def Rt.addR (a b c d : Int) : Int × Int × Int := (Rt.opN (Rt.vld a b && Rt.vld c d) (a * d + c * b) (b * d), Rt.opD (Rt.vld a b && Rt.vld c d) (a * d + c * b) (b * d), Rt.opE (Rt.vld a b && Rt.vld c d) (a * d + c * b) (b * d))
theorem add_is (a b c d N D E : Int) (h : Rt.addR a b c d = (N, D, E)) (w : World) :
    Calls Try.prog 25 #[.agg #[.int .i64 a, .int .i64 b], .agg #[.int .i64 c, .int .i64 d]] w fun e w' =>
      e = .returned (.tuple #[.agg #[.int .i64 N, .int .i64 D], .int .i64 E]) ∧ Below w.heap.size w w' := by
  obtain ⟨rfl, rfl, rfl⟩ : Rt.opN (Rt.vld a b && Rt.vld c d) (a * d + c * b) (b * d) = N ∧ Rt.opD (Rt.vld a b && Rt.vld c d) (a * d + c * b) (b * d) = D ∧ Rt.opE (Rt.vld a b && Rt.vld c d) (a * d + c * b) (b * d) = E := by
    simpa [Rt.addR] using h
  exact add_any a b c d w

end Go.Proofs.Ythamkigdpgajaaa
