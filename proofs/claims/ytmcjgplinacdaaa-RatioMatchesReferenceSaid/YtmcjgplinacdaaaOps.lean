/- The walks of the four operators of package ratio. -/
import Derived.Test.YtmcjgplinacdaaaValid
namespace Go.Proofs.Ytmcjgplinacdaaa
open Go.RowKit

/-- What an operator makes of two ratios: the numbers of the result, and its error. -/
def Rt.opE (ok : Bool) (x y : Int) : Int := if ok = true then Rt.redE x y else 1
def Rt.opN (ok : Bool) (x y : Int) : Int := if ok = true then Rt.redN x y else 0
def Rt.opD (ok : Bool) (x y : Int) : Int := if ok = true then Rt.redD x y else 0
theorem Rt.op_yes (x y : Int) : Rt.opE true x y = Rt.redE x y ∧ Rt.opN true x y = Rt.redN x y ∧ Rt.opD true x y = Rt.redD x y := ⟨rfl, rfl, rfl⟩
theorem Rt.op_no (x y : Int) : Rt.opE false x y = 1 ∧ Rt.opN false x y = 0 ∧ Rt.opD false x y = 0 := ⟨rfl, rfl, rfl⟩

theorem mul_in (a b A B : Int) (h1 : -A ≤ a) (h2 : a ≤ A) (h3 : -B ≤ b) (h4 : b ≤ B) : -(A * B) ≤ a * b ∧ a * b ≤ A * B := by
  have h : (a * b).natAbs ≤ (A * B).natAbs := by
    rw [Int.natAbs_mul, Int.natAbs_mul]; exact Nat.mul_le_mul (by omega) (by omega)
  have h5 : 0 ≤ A * B := Int.mul_nonneg (by omega) (by omega)
  omega
theorem muls_in (a b c d : Int) (h1 : -1000000000 ≤ a) (h2 : a ≤ 1000000000) (h3 : 1 ≤ b) (h4 : b ≤ 1000000) (h5 : -1000000000 ≤ c) (h6 : c ≤ 1000000000) (h7 : 1 ≤ d) (h8 : d ≤ 1000000) :
    (-1000000000000000 ≤ a * d ∧ a * d ≤ 1000000000000000) ∧ (-1000000000000000 ≤ c * b ∧ c * b ≤ 1000000000000000) ∧ (-1000000000000 ≤ b * d ∧ b * d ≤ 1000000000000) ∧
    (-1000000000000000000 ≤ a * c ∧ a * c ≤ 1000000000000000000) ∧ (-1000000000000000 ≤ b * c ∧ b * c ≤ 1000000000000000) := by
  have p1 := mul_in a d 1000000000 1000000 h1 h2 (by omega) h8
  have p3 := mul_in c b 1000000000 1000000 h5 h6 (by omega) h4
  have p5 := mul_in b d 1000000 1000000 (by omega) h4 (by omega) h8
  have p7 := mul_in a c 1000000000 1000000000 h1 h2 h5 h6
  have p9 := mul_in b c 1000000 1000000000 (by omega) h4 h5 h6
  omega

set_option maxHeartbeats 400000 in
theorem add_op (a b c d : Int) (w : World) (h1 : -1000000000 ≤ a) (h2 : a ≤ 1000000000) (h3 : 1 ≤ b) (h4 : b ≤ 1000000) (h5 : -1000000000 ≤ c) (h6 : c ≤ 1000000000) (h7 : 1 ≤ d) (h8 : d ≤ 1000000) :
    Calls Try.prog 38 #[.agg #[.int .i64 a, .int .i64 b], .agg #[.int .i64 c, .int .i64 d]] w fun e w' => e = .returned (.tuple #[.int .i64 (a * d + c * b), .int .i64 (b * d)]) ∧ Below w.heap.size w w' := by
  obtain ⟨⟨p1, p2⟩, ⟨p3, p4⟩, ⟨p5, p6⟩, ⟨p7, p8⟩, ⟨p9, p10⟩⟩ := muls_in a b c d h1 h2 h3 h4 h5 h6 h7 h8
  go_enter Try.func38, Try.ntmps38
  go_wp2_with fail
  go_quiet (fail)
  go_wp2_with fail
  go_ret2
  exact ⟨rfl, below_drewN (by go_grown) _⟩

set_option maxHeartbeats 400000 in
theorem add_combine (a b c d : Int) (w : World) :
    Calls Try.prog 37 #[.agg #[.int .i64 a, .int .i64 b], .agg #[.int .i64 c, .int .i64 d], .func (.func 38) #[] #[]] w fun e w' =>
      e = .returned (.tuple #[.agg #[.int .i64 (Rt.opN (Rt.vld a b && Rt.vld c d) (a * d + c * b) (b * d)), .int .i64 (Rt.opD (Rt.vld a b && Rt.vld c d) (a * d + c * b) (b * d))], .int .i64 (Rt.opE (Rt.vld a b && Rt.vld c d) (a * d + c * b) (b * d))]) ∧ Below w.heap.size w w' := by
  by_cases hv1 : Rt.vld a b = true
  · by_cases hv2 : Rt.vld c d = true
    · rw [hv1, hv2]
      obtain ⟨h1, h2, h3, h4⟩ := Rt.vld_lim hv1
      obtain ⟨h5, h6, h7, h8⟩ := Rt.vld_lim hv2
      have HM := Lib.hid (muls_in a b c d h1 h2 h3 h4 h5 h6 h7 h8)
      have HV1 := Lib.hid hv1
      have HV2 := Lib.hid hv2
      clear hv1 hv2
      go_enter Try.func37, Try.ntmps37
      go_wp2_with fail
      refine (valid_is _ _ _ HV1.out _).mono ?_; rintro e w1 ⟨rfl, hb1⟩
      obtain ⟨hc1, hf1⟩ := bcell hb1
      have hz1 : w.heap.size + 1 + 1 < w1.heap.size := by have := hb1.size; simp at this; omega
      go_wp2_with fail
      refine (valid_is _ _ _ HV2.out _).mono ?_; rintro e w2 ⟨rfl, hb2'⟩
      have hb2 := hb1.trans (hb2'.mono hb1.size); clear hc1 hf1 hb1 hb2'
      obtain ⟨hc2, hf2⟩ := bcell hb2
      have hz2 : w.heap.size + 1 + 1 < w2.heap.size := by have := hb2.size; simp at this; omega
      go_wp2_with fail
      refine (add_op a b c d _ h1 h2 h3 h4 h5 h6 h7 h8).mono ?_; rintro e w3 ⟨rfl, hb3'⟩
      have hb3 := hb2.trans (hb3'.mono hb2.size); clear hc2 hf2 hb2 hb3'
      obtain ⟨hc3, hf3⟩ := bcell hb3
      have hz3 : w.heap.size + 1 + 1 < w3.heap.size := by have := hb3.size; simp at this; omega
      go_wp2_with fail
      refine (reduce_any _ _ _ (by have := HM.out; omega) (by have := HM.out; omega) (by have := HM.out; omega) (by have := HM.out; omega)).mono ?_; rintro e w4 ⟨rfl, hb4'⟩
      have hb4 := hb3.trans (hb4'.mono hb3.size); clear hc3 hf3 hb3 hb4'
      obtain ⟨hc4, hf4⟩ := bcell hb4
      have hz4 : w.heap.size + 1 + 1 < w4.heap.size := by have := hb4.size; simp at this; omega
      have q0 : w4.cell? ⟨w.heap.size + 1 + 1, 0, none⟩ = some (.int .i64 0) := by rw [hc4 _ _ (by simp)]; go_simp
      have q1 : w4.cell? ⟨w.heap.size + 1 + 1, 1, none⟩ = some (.int .i64 0) := by rw [hc4 _ _ (by simp)]; go_simp
      go_wp2_with fail
      refine bodyPost_ret (v := .tuple #[.agg #[.int .i64 (Rt.redN (a * d + c * b) (b * d)), .int .i64 (Rt.redD (a * d + c * b) (b * d))], .int .i64 (Rt.redE (a * d + c * b) (b * d))]) (by simp [results, Try.results37, go_sem, q0, q1]) rfl ⟨rfl, ?_⟩
      exact ((((((Below.refl _ _).alloc (Nat.le_refl _) _).alloc (by simp) _).alloc (by simp; omega) _).trans (hb4.mono (by simp; omega))).setCell (by simp; omega) _).setCell (by simp; omega) _
    · have hv2' : Rt.vld c d = false := by simpa using hv2
      rw [hv1, hv2']
      have HV1 := Lib.hid hv1
      have HV2 := Lib.hid hv2'
      clear hv1 hv2 hv2'
      go_enter Try.func37, Try.ntmps37
      go_wp2_with fail
      refine (valid_is _ _ _ HV1.out _).mono ?_; rintro e w1 ⟨rfl, hb1⟩
      obtain ⟨hc1, hf1⟩ := bcell hb1
      have hz1 : w.heap.size + 1 + 1 < w1.heap.size := by have := hb1.size; simp at this; omega
      go_wp2_with fail
      refine (valid_is _ _ _ HV2.out _).mono ?_; rintro e w2 ⟨rfl, hb2'⟩
      have hb4 := hb1.trans (hb2'.mono hb1.size); clear hc1 hf1 hb1 hb2'
      obtain ⟨hc4, hf4⟩ := bcell hb4
      have hz2 : w.heap.size + 1 + 1 < w2.heap.size := by have := hb4.size; simp at this; omega
      have q0 : w2.cell? ⟨w.heap.size + 1 + 1, 0, none⟩ = some (.int .i64 0) := by rw [hc4 _ _ (by simp)]; go_simp
      have q1 : w2.cell? ⟨w.heap.size + 1 + 1, 1, none⟩ = some (.int .i64 0) := by rw [hc4 _ _ (by simp)]; go_simp
      go_wp2_with fail
      refine bodyPost_ret (v := .tuple #[.agg #[.int .i64 0, .int .i64 0], .int .i64 1]) (by simp [results, Try.results37, go_sem, q0, q1]) rfl ⟨rfl, ?_⟩
      exact ((((((Below.refl _ _).alloc (Nat.le_refl _) _).alloc (by simp) _).alloc (by simp; omega) _).trans (hb4.mono (by simp; omega))).setCell (by simp; omega) _).setCell (by simp; omega) _
  · have hv1' : Rt.vld a b = false := by simpa using hv1
    rw [hv1']
    have HV1 := Lib.hid hv1'
    clear hv1 hv1'
    go_enter Try.func37, Try.ntmps37
    go_wp2_with fail
    refine (valid_is _ _ _ HV1.out _).mono ?_; rintro e w2 ⟨rfl, hb4⟩
    obtain ⟨hc4, hf4⟩ := bcell hb4
    have hz2 : w.heap.size + 1 + 1 < w2.heap.size := by have := hb4.size; simp at this; omega
    have q0 : w2.cell? ⟨w.heap.size + 1 + 1, 0, none⟩ = some (.int .i64 0) := by rw [hc4 _ _ (by simp)]; go_simp
    have q1 : w2.cell? ⟨w.heap.size + 1 + 1, 1, none⟩ = some (.int .i64 0) := by rw [hc4 _ _ (by simp)]; go_simp
    go_wp2_with fail
    refine bodyPost_ret (v := .tuple #[.agg #[.int .i64 0, .int .i64 0], .int .i64 1]) (by simp [results, Try.results37, go_sem, q0, q1]) rfl ⟨rfl, ?_⟩
    exact ((((((Below.refl _ _).alloc (Nat.le_refl _) _).alloc (by simp) _).alloc (by simp; omega) _).trans (hb4.mono (by simp; omega))).setCell (by simp; omega) _).setCell (by simp; omega) _

set_option maxHeartbeats 400000 in
/-- 'Add' at whatever numbers. -/
theorem add_any (a b c d : Int) (w : World) :
    Calls Try.prog 15 #[.agg #[.int .i64 a, .int .i64 b], .agg #[.int .i64 c, .int .i64 d]] w fun e w' =>
      e = .returned (.tuple #[.agg #[.int .i64 (Rt.opN (Rt.vld a b && Rt.vld c d) (a * d + c * b) (b * d)), .int .i64 (Rt.opD (Rt.vld a b && Rt.vld c d) (a * d + c * b) (b * d))], .int .i64 (Rt.opE (Rt.vld a b && Rt.vld c d) (a * d + c * b) (b * d))]) ∧ Below w.heap.size w w' := by
  go_enter Try.func15, Try.ntmps15
  go_wp2_with fail
  refine (add_combine a b c d _).mono ?_; rintro e w2 ⟨rfl, hb4⟩
  obtain ⟨hc4, hf4⟩ := bcell hb4
  have hz2 : w.heap.size + 1 + 1 < w2.heap.size := by have := hb4.size; simp at this; omega
  have q0 : w2.cell? ⟨w.heap.size + 1 + 1, 0, none⟩ = some (.int .i64 0) := by rw [hc4 _ _ (by simp)]; go_simp
  have q1 : w2.cell? ⟨w.heap.size + 1 + 1, 1, none⟩ = some (.int .i64 0) := by rw [hc4 _ _ (by simp)]; go_simp
  go_wp2_with fail
  refine bodyPost_ret (v := .tuple #[.agg #[.int .i64 (Rt.opN (Rt.vld a b && Rt.vld c d) (a * d + c * b) (b * d)), .int .i64 (Rt.opD (Rt.vld a b && Rt.vld c d) (a * d + c * b) (b * d))], .int .i64 (Rt.opE (Rt.vld a b && Rt.vld c d) (a * d + c * b) (b * d))]) (by simp [results, Try.results15, go_sem, q0, q1]) rfl ⟨rfl, ?_⟩
  exact ((((((Below.refl _ _).alloc (Nat.le_refl _) _).alloc (by simp) _).alloc (by simp; omega) _).trans (hb4.mono (by simp; omega))).setCell (by simp; omega) _).setCell (by simp; omega) _

/-- The numbers and the error of 'Add'. -/
def Rt.addR (a b c d : Int) : Int × Int × Int := (Rt.opN (Rt.vld a b && Rt.vld c d) (a * d + c * b) (b * d), Rt.opD (Rt.vld a b && Rt.vld c d) (a * d + c * b) (b * d), Rt.opE (Rt.vld a b && Rt.vld c d) (a * d + c * b) (b * d))
theorem add_is (a b c d N D E : Int) (h : Rt.addR a b c d = (N, D, E)) (w : World) :
    Calls Try.prog 15 #[.agg #[.int .i64 a, .int .i64 b], .agg #[.int .i64 c, .int .i64 d]] w fun e w' =>
      e = .returned (.tuple #[.agg #[.int .i64 N, .int .i64 D], .int .i64 E]) ∧ Below w.heap.size w w' := by
  obtain ⟨rfl, rfl, rfl⟩ : Rt.opN (Rt.vld a b && Rt.vld c d) (a * d + c * b) (b * d) = N ∧ Rt.opD (Rt.vld a b && Rt.vld c d) (a * d + c * b) (b * d) = D ∧ Rt.opE (Rt.vld a b && Rt.vld c d) (a * d + c * b) (b * d) = E := by
    simpa [Rt.addR] using h
  exact add_any a b c d w

set_option maxHeartbeats 400000 in
theorem sub_op (a b c d : Int) (w : World) (h1 : -1000000000 ≤ a) (h2 : a ≤ 1000000000) (h3 : 1 ≤ b) (h4 : b ≤ 1000000) (h5 : -1000000000 ≤ c) (h6 : c ≤ 1000000000) (h7 : 1 ≤ d) (h8 : d ≤ 1000000) :
    Calls Try.prog 40 #[.agg #[.int .i64 a, .int .i64 b], .agg #[.int .i64 c, .int .i64 d]] w fun e w' => e = .returned (.tuple #[.int .i64 (a * d - c * b), .int .i64 (b * d)]) ∧ Below w.heap.size w w' := by
  obtain ⟨⟨p1, p2⟩, ⟨p3, p4⟩, ⟨p5, p6⟩, ⟨p7, p8⟩, ⟨p9, p10⟩⟩ := muls_in a b c d h1 h2 h3 h4 h5 h6 h7 h8
  go_enter Try.func40, Try.ntmps40
  go_wp2_with fail
  go_quiet (fail)
  go_wp2_with fail
  go_ret2
  exact ⟨rfl, below_drewN (by go_grown) _⟩

set_option maxHeartbeats 400000 in
theorem sub_combine (a b c d : Int) (w : World) :
    Calls Try.prog 37 #[.agg #[.int .i64 a, .int .i64 b], .agg #[.int .i64 c, .int .i64 d], .func (.func 40) #[] #[]] w fun e w' =>
      e = .returned (.tuple #[.agg #[.int .i64 (Rt.opN (Rt.vld a b && Rt.vld c d) (a * d - c * b) (b * d)), .int .i64 (Rt.opD (Rt.vld a b && Rt.vld c d) (a * d - c * b) (b * d))], .int .i64 (Rt.opE (Rt.vld a b && Rt.vld c d) (a * d - c * b) (b * d))]) ∧ Below w.heap.size w w' := by
  by_cases hv1 : Rt.vld a b = true
  · by_cases hv2 : Rt.vld c d = true
    · rw [hv1, hv2]
      obtain ⟨h1, h2, h3, h4⟩ := Rt.vld_lim hv1
      obtain ⟨h5, h6, h7, h8⟩ := Rt.vld_lim hv2
      have HM := Lib.hid (muls_in a b c d h1 h2 h3 h4 h5 h6 h7 h8)
      have HV1 := Lib.hid hv1
      have HV2 := Lib.hid hv2
      clear hv1 hv2
      go_enter Try.func37, Try.ntmps37
      go_wp2_with fail
      refine (valid_is _ _ _ HV1.out _).mono ?_; rintro e w1 ⟨rfl, hb1⟩
      obtain ⟨hc1, hf1⟩ := bcell hb1
      have hz1 : w.heap.size + 1 + 1 < w1.heap.size := by have := hb1.size; simp at this; omega
      go_wp2_with fail
      refine (valid_is _ _ _ HV2.out _).mono ?_; rintro e w2 ⟨rfl, hb2'⟩
      have hb2 := hb1.trans (hb2'.mono hb1.size); clear hc1 hf1 hb1 hb2'
      obtain ⟨hc2, hf2⟩ := bcell hb2
      have hz2 : w.heap.size + 1 + 1 < w2.heap.size := by have := hb2.size; simp at this; omega
      go_wp2_with fail
      refine (sub_op a b c d _ h1 h2 h3 h4 h5 h6 h7 h8).mono ?_; rintro e w3 ⟨rfl, hb3'⟩
      have hb3 := hb2.trans (hb3'.mono hb2.size); clear hc2 hf2 hb2 hb3'
      obtain ⟨hc3, hf3⟩ := bcell hb3
      have hz3 : w.heap.size + 1 + 1 < w3.heap.size := by have := hb3.size; simp at this; omega
      go_wp2_with fail
      refine (reduce_any _ _ _ (by have := HM.out; omega) (by have := HM.out; omega) (by have := HM.out; omega) (by have := HM.out; omega)).mono ?_; rintro e w4 ⟨rfl, hb4'⟩
      have hb4 := hb3.trans (hb4'.mono hb3.size); clear hc3 hf3 hb3 hb4'
      obtain ⟨hc4, hf4⟩ := bcell hb4
      have hz4 : w.heap.size + 1 + 1 < w4.heap.size := by have := hb4.size; simp at this; omega
      have q0 : w4.cell? ⟨w.heap.size + 1 + 1, 0, none⟩ = some (.int .i64 0) := by rw [hc4 _ _ (by simp)]; go_simp
      have q1 : w4.cell? ⟨w.heap.size + 1 + 1, 1, none⟩ = some (.int .i64 0) := by rw [hc4 _ _ (by simp)]; go_simp
      go_wp2_with fail
      refine bodyPost_ret (v := .tuple #[.agg #[.int .i64 (Rt.redN (a * d - c * b) (b * d)), .int .i64 (Rt.redD (a * d - c * b) (b * d))], .int .i64 (Rt.redE (a * d - c * b) (b * d))]) (by simp [results, Try.results37, go_sem, q0, q1]) rfl ⟨rfl, ?_⟩
      exact ((((((Below.refl _ _).alloc (Nat.le_refl _) _).alloc (by simp) _).alloc (by simp; omega) _).trans (hb4.mono (by simp; omega))).setCell (by simp; omega) _).setCell (by simp; omega) _
    · have hv2' : Rt.vld c d = false := by simpa using hv2
      rw [hv1, hv2']
      have HV1 := Lib.hid hv1
      have HV2 := Lib.hid hv2'
      clear hv1 hv2 hv2'
      go_enter Try.func37, Try.ntmps37
      go_wp2_with fail
      refine (valid_is _ _ _ HV1.out _).mono ?_; rintro e w1 ⟨rfl, hb1⟩
      obtain ⟨hc1, hf1⟩ := bcell hb1
      have hz1 : w.heap.size + 1 + 1 < w1.heap.size := by have := hb1.size; simp at this; omega
      go_wp2_with fail
      refine (valid_is _ _ _ HV2.out _).mono ?_; rintro e w2 ⟨rfl, hb2'⟩
      have hb4 := hb1.trans (hb2'.mono hb1.size); clear hc1 hf1 hb1 hb2'
      obtain ⟨hc4, hf4⟩ := bcell hb4
      have hz2 : w.heap.size + 1 + 1 < w2.heap.size := by have := hb4.size; simp at this; omega
      have q0 : w2.cell? ⟨w.heap.size + 1 + 1, 0, none⟩ = some (.int .i64 0) := by rw [hc4 _ _ (by simp)]; go_simp
      have q1 : w2.cell? ⟨w.heap.size + 1 + 1, 1, none⟩ = some (.int .i64 0) := by rw [hc4 _ _ (by simp)]; go_simp
      go_wp2_with fail
      refine bodyPost_ret (v := .tuple #[.agg #[.int .i64 0, .int .i64 0], .int .i64 1]) (by simp [results, Try.results37, go_sem, q0, q1]) rfl ⟨rfl, ?_⟩
      exact ((((((Below.refl _ _).alloc (Nat.le_refl _) _).alloc (by simp) _).alloc (by simp; omega) _).trans (hb4.mono (by simp; omega))).setCell (by simp; omega) _).setCell (by simp; omega) _
  · have hv1' : Rt.vld a b = false := by simpa using hv1
    rw [hv1']
    have HV1 := Lib.hid hv1'
    clear hv1 hv1'
    go_enter Try.func37, Try.ntmps37
    go_wp2_with fail
    refine (valid_is _ _ _ HV1.out _).mono ?_; rintro e w2 ⟨rfl, hb4⟩
    obtain ⟨hc4, hf4⟩ := bcell hb4
    have hz2 : w.heap.size + 1 + 1 < w2.heap.size := by have := hb4.size; simp at this; omega
    have q0 : w2.cell? ⟨w.heap.size + 1 + 1, 0, none⟩ = some (.int .i64 0) := by rw [hc4 _ _ (by simp)]; go_simp
    have q1 : w2.cell? ⟨w.heap.size + 1 + 1, 1, none⟩ = some (.int .i64 0) := by rw [hc4 _ _ (by simp)]; go_simp
    go_wp2_with fail
    refine bodyPost_ret (v := .tuple #[.agg #[.int .i64 0, .int .i64 0], .int .i64 1]) (by simp [results, Try.results37, go_sem, q0, q1]) rfl ⟨rfl, ?_⟩
    exact ((((((Below.refl _ _).alloc (Nat.le_refl _) _).alloc (by simp) _).alloc (by simp; omega) _).trans (hb4.mono (by simp; omega))).setCell (by simp; omega) _).setCell (by simp; omega) _

set_option maxHeartbeats 400000 in
/-- 'Sub' at whatever numbers. -/
theorem sub_any (a b c d : Int) (w : World) :
    Calls Try.prog 17 #[.agg #[.int .i64 a, .int .i64 b], .agg #[.int .i64 c, .int .i64 d]] w fun e w' =>
      e = .returned (.tuple #[.agg #[.int .i64 (Rt.opN (Rt.vld a b && Rt.vld c d) (a * d - c * b) (b * d)), .int .i64 (Rt.opD (Rt.vld a b && Rt.vld c d) (a * d - c * b) (b * d))], .int .i64 (Rt.opE (Rt.vld a b && Rt.vld c d) (a * d - c * b) (b * d))]) ∧ Below w.heap.size w w' := by
  go_enter Try.func17, Try.ntmps17
  go_wp2_with fail
  refine (sub_combine a b c d _).mono ?_; rintro e w2 ⟨rfl, hb4⟩
  obtain ⟨hc4, hf4⟩ := bcell hb4
  have hz2 : w.heap.size + 1 + 1 < w2.heap.size := by have := hb4.size; simp at this; omega
  have q0 : w2.cell? ⟨w.heap.size + 1 + 1, 0, none⟩ = some (.int .i64 0) := by rw [hc4 _ _ (by simp)]; go_simp
  have q1 : w2.cell? ⟨w.heap.size + 1 + 1, 1, none⟩ = some (.int .i64 0) := by rw [hc4 _ _ (by simp)]; go_simp
  go_wp2_with fail
  refine bodyPost_ret (v := .tuple #[.agg #[.int .i64 (Rt.opN (Rt.vld a b && Rt.vld c d) (a * d - c * b) (b * d)), .int .i64 (Rt.opD (Rt.vld a b && Rt.vld c d) (a * d - c * b) (b * d))], .int .i64 (Rt.opE (Rt.vld a b && Rt.vld c d) (a * d - c * b) (b * d))]) (by simp [results, Try.results17, go_sem, q0, q1]) rfl ⟨rfl, ?_⟩
  exact ((((((Below.refl _ _).alloc (Nat.le_refl _) _).alloc (by simp) _).alloc (by simp; omega) _).trans (hb4.mono (by simp; omega))).setCell (by simp; omega) _).setCell (by simp; omega) _

/-- The numbers and the error of 'Sub'. -/
def Rt.subR (a b c d : Int) : Int × Int × Int := (Rt.opN (Rt.vld a b && Rt.vld c d) (a * d - c * b) (b * d), Rt.opD (Rt.vld a b && Rt.vld c d) (a * d - c * b) (b * d), Rt.opE (Rt.vld a b && Rt.vld c d) (a * d - c * b) (b * d))
theorem sub_is (a b c d N D E : Int) (h : Rt.subR a b c d = (N, D, E)) (w : World) :
    Calls Try.prog 17 #[.agg #[.int .i64 a, .int .i64 b], .agg #[.int .i64 c, .int .i64 d]] w fun e w' =>
      e = .returned (.tuple #[.agg #[.int .i64 N, .int .i64 D], .int .i64 E]) ∧ Below w.heap.size w w' := by
  obtain ⟨rfl, rfl, rfl⟩ : Rt.opN (Rt.vld a b && Rt.vld c d) (a * d - c * b) (b * d) = N ∧ Rt.opD (Rt.vld a b && Rt.vld c d) (a * d - c * b) (b * d) = D ∧ Rt.opE (Rt.vld a b && Rt.vld c d) (a * d - c * b) (b * d) = E := by
    simpa [Rt.subR] using h
  exact sub_any a b c d w

set_option maxHeartbeats 400000 in
theorem mul_op (a b c d : Int) (w : World) (h1 : -1000000000 ≤ a) (h2 : a ≤ 1000000000) (h3 : 1 ≤ b) (h4 : b ≤ 1000000) (h5 : -1000000000 ≤ c) (h6 : c ≤ 1000000000) (h7 : 1 ≤ d) (h8 : d ≤ 1000000) :
    Calls Try.prog 41 #[.agg #[.int .i64 a, .int .i64 b], .agg #[.int .i64 c, .int .i64 d]] w fun e w' => e = .returned (.tuple #[.int .i64 (a * c), .int .i64 (b * d)]) ∧ Below w.heap.size w w' := by
  obtain ⟨⟨p1, p2⟩, ⟨p3, p4⟩, ⟨p5, p6⟩, ⟨p7, p8⟩, ⟨p9, p10⟩⟩ := muls_in a b c d h1 h2 h3 h4 h5 h6 h7 h8
  go_enter Try.func41, Try.ntmps41
  go_wp2_with fail
  go_quiet (fail)
  go_wp2_with fail
  go_ret2
  exact ⟨rfl, below_drewN (by go_grown) _⟩

set_option maxHeartbeats 400000 in
theorem mul_combine (a b c d : Int) (w : World) :
    Calls Try.prog 37 #[.agg #[.int .i64 a, .int .i64 b], .agg #[.int .i64 c, .int .i64 d], .func (.func 41) #[] #[]] w fun e w' =>
      e = .returned (.tuple #[.agg #[.int .i64 (Rt.opN (Rt.vld a b && Rt.vld c d) (a * c) (b * d)), .int .i64 (Rt.opD (Rt.vld a b && Rt.vld c d) (a * c) (b * d))], .int .i64 (Rt.opE (Rt.vld a b && Rt.vld c d) (a * c) (b * d))]) ∧ Below w.heap.size w w' := by
  by_cases hv1 : Rt.vld a b = true
  · by_cases hv2 : Rt.vld c d = true
    · rw [hv1, hv2]
      obtain ⟨h1, h2, h3, h4⟩ := Rt.vld_lim hv1
      obtain ⟨h5, h6, h7, h8⟩ := Rt.vld_lim hv2
      have HM := Lib.hid (muls_in a b c d h1 h2 h3 h4 h5 h6 h7 h8)
      have HV1 := Lib.hid hv1
      have HV2 := Lib.hid hv2
      clear hv1 hv2
      go_enter Try.func37, Try.ntmps37
      go_wp2_with fail
      refine (valid_is _ _ _ HV1.out _).mono ?_; rintro e w1 ⟨rfl, hb1⟩
      obtain ⟨hc1, hf1⟩ := bcell hb1
      have hz1 : w.heap.size + 1 + 1 < w1.heap.size := by have := hb1.size; simp at this; omega
      go_wp2_with fail
      refine (valid_is _ _ _ HV2.out _).mono ?_; rintro e w2 ⟨rfl, hb2'⟩
      have hb2 := hb1.trans (hb2'.mono hb1.size); clear hc1 hf1 hb1 hb2'
      obtain ⟨hc2, hf2⟩ := bcell hb2
      have hz2 : w.heap.size + 1 + 1 < w2.heap.size := by have := hb2.size; simp at this; omega
      go_wp2_with fail
      refine (mul_op a b c d _ h1 h2 h3 h4 h5 h6 h7 h8).mono ?_; rintro e w3 ⟨rfl, hb3'⟩
      have hb3 := hb2.trans (hb3'.mono hb2.size); clear hc2 hf2 hb2 hb3'
      obtain ⟨hc3, hf3⟩ := bcell hb3
      have hz3 : w.heap.size + 1 + 1 < w3.heap.size := by have := hb3.size; simp at this; omega
      go_wp2_with fail
      refine (reduce_any _ _ _ (by have := HM.out; omega) (by have := HM.out; omega) (by have := HM.out; omega) (by have := HM.out; omega)).mono ?_; rintro e w4 ⟨rfl, hb4'⟩
      have hb4 := hb3.trans (hb4'.mono hb3.size); clear hc3 hf3 hb3 hb4'
      obtain ⟨hc4, hf4⟩ := bcell hb4
      have hz4 : w.heap.size + 1 + 1 < w4.heap.size := by have := hb4.size; simp at this; omega
      have q0 : w4.cell? ⟨w.heap.size + 1 + 1, 0, none⟩ = some (.int .i64 0) := by rw [hc4 _ _ (by simp)]; go_simp
      have q1 : w4.cell? ⟨w.heap.size + 1 + 1, 1, none⟩ = some (.int .i64 0) := by rw [hc4 _ _ (by simp)]; go_simp
      go_wp2_with fail
      refine bodyPost_ret (v := .tuple #[.agg #[.int .i64 (Rt.redN (a * c) (b * d)), .int .i64 (Rt.redD (a * c) (b * d))], .int .i64 (Rt.redE (a * c) (b * d))]) (by simp [results, Try.results37, go_sem, q0, q1]) rfl ⟨rfl, ?_⟩
      exact ((((((Below.refl _ _).alloc (Nat.le_refl _) _).alloc (by simp) _).alloc (by simp; omega) _).trans (hb4.mono (by simp; omega))).setCell (by simp; omega) _).setCell (by simp; omega) _
    · have hv2' : Rt.vld c d = false := by simpa using hv2
      rw [hv1, hv2']
      have HV1 := Lib.hid hv1
      have HV2 := Lib.hid hv2'
      clear hv1 hv2 hv2'
      go_enter Try.func37, Try.ntmps37
      go_wp2_with fail
      refine (valid_is _ _ _ HV1.out _).mono ?_; rintro e w1 ⟨rfl, hb1⟩
      obtain ⟨hc1, hf1⟩ := bcell hb1
      have hz1 : w.heap.size + 1 + 1 < w1.heap.size := by have := hb1.size; simp at this; omega
      go_wp2_with fail
      refine (valid_is _ _ _ HV2.out _).mono ?_; rintro e w2 ⟨rfl, hb2'⟩
      have hb4 := hb1.trans (hb2'.mono hb1.size); clear hc1 hf1 hb1 hb2'
      obtain ⟨hc4, hf4⟩ := bcell hb4
      have hz2 : w.heap.size + 1 + 1 < w2.heap.size := by have := hb4.size; simp at this; omega
      have q0 : w2.cell? ⟨w.heap.size + 1 + 1, 0, none⟩ = some (.int .i64 0) := by rw [hc4 _ _ (by simp)]; go_simp
      have q1 : w2.cell? ⟨w.heap.size + 1 + 1, 1, none⟩ = some (.int .i64 0) := by rw [hc4 _ _ (by simp)]; go_simp
      go_wp2_with fail
      refine bodyPost_ret (v := .tuple #[.agg #[.int .i64 0, .int .i64 0], .int .i64 1]) (by simp [results, Try.results37, go_sem, q0, q1]) rfl ⟨rfl, ?_⟩
      exact ((((((Below.refl _ _).alloc (Nat.le_refl _) _).alloc (by simp) _).alloc (by simp; omega) _).trans (hb4.mono (by simp; omega))).setCell (by simp; omega) _).setCell (by simp; omega) _
  · have hv1' : Rt.vld a b = false := by simpa using hv1
    rw [hv1']
    have HV1 := Lib.hid hv1'
    clear hv1 hv1'
    go_enter Try.func37, Try.ntmps37
    go_wp2_with fail
    refine (valid_is _ _ _ HV1.out _).mono ?_; rintro e w2 ⟨rfl, hb4⟩
    obtain ⟨hc4, hf4⟩ := bcell hb4
    have hz2 : w.heap.size + 1 + 1 < w2.heap.size := by have := hb4.size; simp at this; omega
    have q0 : w2.cell? ⟨w.heap.size + 1 + 1, 0, none⟩ = some (.int .i64 0) := by rw [hc4 _ _ (by simp)]; go_simp
    have q1 : w2.cell? ⟨w.heap.size + 1 + 1, 1, none⟩ = some (.int .i64 0) := by rw [hc4 _ _ (by simp)]; go_simp
    go_wp2_with fail
    refine bodyPost_ret (v := .tuple #[.agg #[.int .i64 0, .int .i64 0], .int .i64 1]) (by simp [results, Try.results37, go_sem, q0, q1]) rfl ⟨rfl, ?_⟩
    exact ((((((Below.refl _ _).alloc (Nat.le_refl _) _).alloc (by simp) _).alloc (by simp; omega) _).trans (hb4.mono (by simp; omega))).setCell (by simp; omega) _).setCell (by simp; omega) _

set_option maxHeartbeats 400000 in
/-- 'Mul' at whatever numbers. -/
theorem mul_any (a b c d : Int) (w : World) :
    Calls Try.prog 19 #[.agg #[.int .i64 a, .int .i64 b], .agg #[.int .i64 c, .int .i64 d]] w fun e w' =>
      e = .returned (.tuple #[.agg #[.int .i64 (Rt.opN (Rt.vld a b && Rt.vld c d) (a * c) (b * d)), .int .i64 (Rt.opD (Rt.vld a b && Rt.vld c d) (a * c) (b * d))], .int .i64 (Rt.opE (Rt.vld a b && Rt.vld c d) (a * c) (b * d))]) ∧ Below w.heap.size w w' := by
  go_enter Try.func19, Try.ntmps19
  go_wp2_with fail
  refine (mul_combine a b c d _).mono ?_; rintro e w2 ⟨rfl, hb4⟩
  obtain ⟨hc4, hf4⟩ := bcell hb4
  have hz2 : w.heap.size + 1 + 1 < w2.heap.size := by have := hb4.size; simp at this; omega
  have q0 : w2.cell? ⟨w.heap.size + 1 + 1, 0, none⟩ = some (.int .i64 0) := by rw [hc4 _ _ (by simp)]; go_simp
  have q1 : w2.cell? ⟨w.heap.size + 1 + 1, 1, none⟩ = some (.int .i64 0) := by rw [hc4 _ _ (by simp)]; go_simp
  go_wp2_with fail
  refine bodyPost_ret (v := .tuple #[.agg #[.int .i64 (Rt.opN (Rt.vld a b && Rt.vld c d) (a * c) (b * d)), .int .i64 (Rt.opD (Rt.vld a b && Rt.vld c d) (a * c) (b * d))], .int .i64 (Rt.opE (Rt.vld a b && Rt.vld c d) (a * c) (b * d))]) (by simp [results, Try.results19, go_sem, q0, q1]) rfl ⟨rfl, ?_⟩
  exact ((((((Below.refl _ _).alloc (Nat.le_refl _) _).alloc (by simp) _).alloc (by simp; omega) _).trans (hb4.mono (by simp; omega))).setCell (by simp; omega) _).setCell (by simp; omega) _

/-- The numbers and the error of 'Mul'. -/
def Rt.mulR (a b c d : Int) : Int × Int × Int := (Rt.opN (Rt.vld a b && Rt.vld c d) (a * c) (b * d), Rt.opD (Rt.vld a b && Rt.vld c d) (a * c) (b * d), Rt.opE (Rt.vld a b && Rt.vld c d) (a * c) (b * d))
theorem mul_is (a b c d N D E : Int) (h : Rt.mulR a b c d = (N, D, E)) (w : World) :
    Calls Try.prog 19 #[.agg #[.int .i64 a, .int .i64 b], .agg #[.int .i64 c, .int .i64 d]] w fun e w' =>
      e = .returned (.tuple #[.agg #[.int .i64 N, .int .i64 D], .int .i64 E]) ∧ Below w.heap.size w w' := by
  obtain ⟨rfl, rfl, rfl⟩ : Rt.opN (Rt.vld a b && Rt.vld c d) (a * c) (b * d) = N ∧ Rt.opD (Rt.vld a b && Rt.vld c d) (a * c) (b * d) = D ∧ Rt.opE (Rt.vld a b && Rt.vld c d) (a * c) (b * d) = E := by
    simpa [Rt.mulR] using h
  exact mul_any a b c d w

set_option maxHeartbeats 400000 in
theorem div_op (a b c d : Int) (w : World) (h1 : -1000000000 ≤ a) (h2 : a ≤ 1000000000) (h3 : 1 ≤ b) (h4 : b ≤ 1000000) (h5 : -1000000000 ≤ c) (h6 : c ≤ 1000000000) (h7 : 1 ≤ d) (h8 : d ≤ 1000000) :
    Calls Try.prog 42 #[.agg #[.int .i64 a, .int .i64 b], .agg #[.int .i64 c, .int .i64 d]] w fun e w' => e = .returned (.tuple #[.int .i64 (a * d), .int .i64 (b * c)]) ∧ Below w.heap.size w w' := by
  obtain ⟨⟨p1, p2⟩, ⟨p3, p4⟩, ⟨p5, p6⟩, ⟨p7, p8⟩, ⟨p9, p10⟩⟩ := muls_in a b c d h1 h2 h3 h4 h5 h6 h7 h8
  go_enter Try.func42, Try.ntmps42
  go_wp2_with fail
  go_quiet (fail)
  go_wp2_with fail
  go_ret2
  exact ⟨rfl, below_drewN (by go_grown) _⟩

set_option maxHeartbeats 400000 in
theorem div_combine (a b c d : Int) (w : World) :
    Calls Try.prog 37 #[.agg #[.int .i64 a, .int .i64 b], .agg #[.int .i64 c, .int .i64 d], .func (.func 42) #[] #[]] w fun e w' =>
      e = .returned (.tuple #[.agg #[.int .i64 (Rt.opN (Rt.vld a b && Rt.vld c d) (a * d) (b * c)), .int .i64 (Rt.opD (Rt.vld a b && Rt.vld c d) (a * d) (b * c))], .int .i64 (Rt.opE (Rt.vld a b && Rt.vld c d) (a * d) (b * c))]) ∧ Below w.heap.size w w' := by
  by_cases hv1 : Rt.vld a b = true
  · by_cases hv2 : Rt.vld c d = true
    · rw [hv1, hv2]
      obtain ⟨h1, h2, h3, h4⟩ := Rt.vld_lim hv1
      obtain ⟨h5, h6, h7, h8⟩ := Rt.vld_lim hv2
      have HM := Lib.hid (muls_in a b c d h1 h2 h3 h4 h5 h6 h7 h8)
      have HV1 := Lib.hid hv1
      have HV2 := Lib.hid hv2
      clear hv1 hv2
      go_enter Try.func37, Try.ntmps37
      go_wp2_with fail
      refine (valid_is _ _ _ HV1.out _).mono ?_; rintro e w1 ⟨rfl, hb1⟩
      obtain ⟨hc1, hf1⟩ := bcell hb1
      have hz1 : w.heap.size + 1 + 1 < w1.heap.size := by have := hb1.size; simp at this; omega
      go_wp2_with fail
      refine (valid_is _ _ _ HV2.out _).mono ?_; rintro e w2 ⟨rfl, hb2'⟩
      have hb2 := hb1.trans (hb2'.mono hb1.size); clear hc1 hf1 hb1 hb2'
      obtain ⟨hc2, hf2⟩ := bcell hb2
      have hz2 : w.heap.size + 1 + 1 < w2.heap.size := by have := hb2.size; simp at this; omega
      go_wp2_with fail
      refine (div_op a b c d _ h1 h2 h3 h4 h5 h6 h7 h8).mono ?_; rintro e w3 ⟨rfl, hb3'⟩
      have hb3 := hb2.trans (hb3'.mono hb2.size); clear hc2 hf2 hb2 hb3'
      obtain ⟨hc3, hf3⟩ := bcell hb3
      have hz3 : w.heap.size + 1 + 1 < w3.heap.size := by have := hb3.size; simp at this; omega
      go_wp2_with fail
      refine (reduce_any _ _ _ (by have := HM.out; omega) (by have := HM.out; omega) (by have := HM.out; omega) (by have := HM.out; omega)).mono ?_; rintro e w4 ⟨rfl, hb4'⟩
      have hb4 := hb3.trans (hb4'.mono hb3.size); clear hc3 hf3 hb3 hb4'
      obtain ⟨hc4, hf4⟩ := bcell hb4
      have hz4 : w.heap.size + 1 + 1 < w4.heap.size := by have := hb4.size; simp at this; omega
      have q0 : w4.cell? ⟨w.heap.size + 1 + 1, 0, none⟩ = some (.int .i64 0) := by rw [hc4 _ _ (by simp)]; go_simp
      have q1 : w4.cell? ⟨w.heap.size + 1 + 1, 1, none⟩ = some (.int .i64 0) := by rw [hc4 _ _ (by simp)]; go_simp
      go_wp2_with fail
      refine bodyPost_ret (v := .tuple #[.agg #[.int .i64 (Rt.redN (a * d) (b * c)), .int .i64 (Rt.redD (a * d) (b * c))], .int .i64 (Rt.redE (a * d) (b * c))]) (by simp [results, Try.results37, go_sem, q0, q1]) rfl ⟨rfl, ?_⟩
      exact ((((((Below.refl _ _).alloc (Nat.le_refl _) _).alloc (by simp) _).alloc (by simp; omega) _).trans (hb4.mono (by simp; omega))).setCell (by simp; omega) _).setCell (by simp; omega) _
    · have hv2' : Rt.vld c d = false := by simpa using hv2
      rw [hv1, hv2']
      have HV1 := Lib.hid hv1
      have HV2 := Lib.hid hv2'
      clear hv1 hv2 hv2'
      go_enter Try.func37, Try.ntmps37
      go_wp2_with fail
      refine (valid_is _ _ _ HV1.out _).mono ?_; rintro e w1 ⟨rfl, hb1⟩
      obtain ⟨hc1, hf1⟩ := bcell hb1
      have hz1 : w.heap.size + 1 + 1 < w1.heap.size := by have := hb1.size; simp at this; omega
      go_wp2_with fail
      refine (valid_is _ _ _ HV2.out _).mono ?_; rintro e w2 ⟨rfl, hb2'⟩
      have hb4 := hb1.trans (hb2'.mono hb1.size); clear hc1 hf1 hb1 hb2'
      obtain ⟨hc4, hf4⟩ := bcell hb4
      have hz2 : w.heap.size + 1 + 1 < w2.heap.size := by have := hb4.size; simp at this; omega
      have q0 : w2.cell? ⟨w.heap.size + 1 + 1, 0, none⟩ = some (.int .i64 0) := by rw [hc4 _ _ (by simp)]; go_simp
      have q1 : w2.cell? ⟨w.heap.size + 1 + 1, 1, none⟩ = some (.int .i64 0) := by rw [hc4 _ _ (by simp)]; go_simp
      go_wp2_with fail
      refine bodyPost_ret (v := .tuple #[.agg #[.int .i64 0, .int .i64 0], .int .i64 1]) (by simp [results, Try.results37, go_sem, q0, q1]) rfl ⟨rfl, ?_⟩
      exact ((((((Below.refl _ _).alloc (Nat.le_refl _) _).alloc (by simp) _).alloc (by simp; omega) _).trans (hb4.mono (by simp; omega))).setCell (by simp; omega) _).setCell (by simp; omega) _
  · have hv1' : Rt.vld a b = false := by simpa using hv1
    rw [hv1']
    have HV1 := Lib.hid hv1'
    clear hv1 hv1'
    go_enter Try.func37, Try.ntmps37
    go_wp2_with fail
    refine (valid_is _ _ _ HV1.out _).mono ?_; rintro e w2 ⟨rfl, hb4⟩
    obtain ⟨hc4, hf4⟩ := bcell hb4
    have hz2 : w.heap.size + 1 + 1 < w2.heap.size := by have := hb4.size; simp at this; omega
    have q0 : w2.cell? ⟨w.heap.size + 1 + 1, 0, none⟩ = some (.int .i64 0) := by rw [hc4 _ _ (by simp)]; go_simp
    have q1 : w2.cell? ⟨w.heap.size + 1 + 1, 1, none⟩ = some (.int .i64 0) := by rw [hc4 _ _ (by simp)]; go_simp
    go_wp2_with fail
    refine bodyPost_ret (v := .tuple #[.agg #[.int .i64 0, .int .i64 0], .int .i64 1]) (by simp [results, Try.results37, go_sem, q0, q1]) rfl ⟨rfl, ?_⟩
    exact ((((((Below.refl _ _).alloc (Nat.le_refl _) _).alloc (by simp) _).alloc (by simp; omega) _).trans (hb4.mono (by simp; omega))).setCell (by simp; omega) _).setCell (by simp; omega) _

set_option maxHeartbeats 400000 in
/-- 'Div' at whatever numbers. -/
theorem div_any (a b c d : Int) (w : World) :
    Calls Try.prog 21 #[.agg #[.int .i64 a, .int .i64 b], .agg #[.int .i64 c, .int .i64 d]] w fun e w' =>
      e = .returned (.tuple #[.agg #[.int .i64 (Rt.opN (Rt.vld a b && Rt.vld c d) (a * d) (b * c)), .int .i64 (Rt.opD (Rt.vld a b && Rt.vld c d) (a * d) (b * c))], .int .i64 (Rt.opE (Rt.vld a b && Rt.vld c d) (a * d) (b * c))]) ∧ Below w.heap.size w w' := by
  go_enter Try.func21, Try.ntmps21
  go_wp2_with fail
  refine (div_combine a b c d _).mono ?_; rintro e w2 ⟨rfl, hb4⟩
  obtain ⟨hc4, hf4⟩ := bcell hb4
  have hz2 : w.heap.size + 1 + 1 < w2.heap.size := by have := hb4.size; simp at this; omega
  have q0 : w2.cell? ⟨w.heap.size + 1 + 1, 0, none⟩ = some (.int .i64 0) := by rw [hc4 _ _ (by simp)]; go_simp
  have q1 : w2.cell? ⟨w.heap.size + 1 + 1, 1, none⟩ = some (.int .i64 0) := by rw [hc4 _ _ (by simp)]; go_simp
  go_wp2_with fail
  refine bodyPost_ret (v := .tuple #[.agg #[.int .i64 (Rt.opN (Rt.vld a b && Rt.vld c d) (a * d) (b * c)), .int .i64 (Rt.opD (Rt.vld a b && Rt.vld c d) (a * d) (b * c))], .int .i64 (Rt.opE (Rt.vld a b && Rt.vld c d) (a * d) (b * c))]) (by simp [results, Try.results21, go_sem, q0, q1]) rfl ⟨rfl, ?_⟩
  exact ((((((Below.refl _ _).alloc (Nat.le_refl _) _).alloc (by simp) _).alloc (by simp; omega) _).trans (hb4.mono (by simp; omega))).setCell (by simp; omega) _).setCell (by simp; omega) _

/-- The numbers and the error of 'Div'. -/
def Rt.divR (a b c d : Int) : Int × Int × Int := (Rt.opN (Rt.vld a b && Rt.vld c d) (a * d) (b * c), Rt.opD (Rt.vld a b && Rt.vld c d) (a * d) (b * c), Rt.opE (Rt.vld a b && Rt.vld c d) (a * d) (b * c))
theorem div_is (a b c d N D E : Int) (h : Rt.divR a b c d = (N, D, E)) (w : World) :
    Calls Try.prog 21 #[.agg #[.int .i64 a, .int .i64 b], .agg #[.int .i64 c, .int .i64 d]] w fun e w' =>
      e = .returned (.tuple #[.agg #[.int .i64 N, .int .i64 D], .int .i64 E]) ∧ Below w.heap.size w w' := by
  obtain ⟨rfl, rfl, rfl⟩ : Rt.opN (Rt.vld a b && Rt.vld c d) (a * d) (b * c) = N ∧ Rt.opD (Rt.vld a b && Rt.vld c d) (a * d) (b * c) = D ∧ Rt.opE (Rt.vld a b && Rt.vld c d) (a * d) (b * c) = E := by
    simpa [Rt.divR] using h
  exact div_any a b c d w

end Go.Proofs.Ytmcjgplinacdaaa
