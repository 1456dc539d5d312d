/- The walks of the reference's Make, Add, Sub, Mul, Div, Compare and Floor. -/
import Derived.Test.YtmcjgplinacdaaaRefr
import Derived.Test.YtmcjgplinacdaaaCmp
namespace Go.Proofs.Ytmcjgplinacdaaa
open Go.RowKit

set_option maxHeartbeats 800000 in
theorem radd_no (a b c d : Int) (x y : Bool) (hx : Rt.vld a b = x) (hy : Rt.vld c d = y) (h : (x && y) = false) (w : World) :
    Calls Try.prog 16 #[.agg #[.int .i64 a, .int .i64 b], .agg #[.int .i64 c, .int .i64 d]] w fun e w' =>
      e = .returned (.tuple #[.agg #[.int .i64 0, .int .i64 0], .int .i64 1]) ∧ Below w.heap.size w w' := by
  have HV1 := Lib.hid hx
  have HV2 := Lib.hid hy
  clear hx hy
  go_enter Try.func16, Try.ntmps16
  go_wp2_with fail
  refine (both_is _ _ _ _ _ _ HV1.out HV2.out _).mono ?_; rintro e w2 ⟨rfl, hb4⟩
  obtain ⟨hc4, hf4⟩ := bcell hb4
  have hz2 : w.heap.size + 1 + 1 < w2.heap.size := by have := hb4.size; simp at this; omega
  have q0 : w2.cell? ⟨w.heap.size + 1 + 1, 0, none⟩ = some (.int .i64 0) := by rw [hc4 _ _ (by simp)]; go_simp
  have q1 : w2.cell? ⟨w.heap.size + 1 + 1, 1, none⟩ = some (.int .i64 0) := by rw [hc4 _ _ (by simp)]; go_simp
  go_wp2_with fail
  refine bodyPost_ret (v := .tuple #[.agg #[.int .i64 0, .int .i64 0], .int .i64 1]) (by simp [results, Try.results16, go_sem, q0, q1]) rfl ⟨rfl, ?_⟩
  exact ((((((Below.refl _ _).alloc (Nat.le_refl _) _).alloc (by simp) _).alloc (by simp; omega) _).trans (hb4.mono (by simp; omega))).setCell (by simp; omega) _).setCell (by simp; omega) _

set_option maxHeartbeats 1600000 in
theorem radd_any (a b c d : Int) (w : World) :
    Calls Try.prog 16 #[.agg #[.int .i64 a, .int .i64 b], .agg #[.int .i64 c, .int .i64 d]] w fun e w' =>
      e = .returned (.tuple #[.agg #[.int .i64 (Rt.opN (Rt.vld a b && Rt.vld c d) (a * d + c * b) (b * d)), .int .i64 (Rt.opD (Rt.vld a b && Rt.vld c d) (a * d + c * b) (b * d))], .int .i64 (Rt.opE (Rt.vld a b && Rt.vld c d) (a * d + c * b) (b * d))]) ∧ Below w.heap.size w w' := by
  by_cases hv : (Rt.vld a b && Rt.vld c d) = true
  · rw [hv]
    obtain ⟨hv1, hv2⟩ := (Bool.and_eq_true _ _ ▸ hv : Rt.vld a b = true ∧ Rt.vld c d = true)
    obtain ⟨h1, h2, h3, h4⟩ := Rt.vld_lim hv1
    obtain ⟨h5, h6, h7, h8⟩ := Rt.vld_lim hv2
    have HV1 := Lib.hid hv1
    have HV2 := Lib.hid hv2
    clear hv hv1 hv2
    obtain ⟨⟨p1, p2⟩, ⟨p3, p4⟩, ⟨p5, p6⟩, ⟨p7, p8⟩, ⟨p9, p10⟩⟩ := muls_in a b c d h1 h2 h3 h4 h5 h6 h7 h8
    have hne : b * d ≠ 0 := Int.mul_ne_zero (by omega) (by omega)
    have HNE := Lib.hid hne; clear hne
    go_enter Try.func16, Try.ntmps16
    go_wp2_with fail
    refine (both_is _ _ _ _ _ _ HV1.out HV2.out _).mono ?_; rintro e w2 ⟨rfl, hb4⟩
    obtain ⟨hc4, hf4⟩ := bcell hb4
    have hz2 : w.heap.size + 1 + 1 < w2.heap.size := by have := hb4.size; simp at this; omega
    have q0 : w2.cell? ⟨w.heap.size + 1 + 1, 0, none⟩ = some (.int .i64 0) := by rw [hc4 _ _ (by simp)]; go_simp
    have q1 : w2.cell? ⟨w.heap.size + 1 + 1, 1, none⟩ = some (.int .i64 0) := by rw [hc4 _ _ (by simp)]; go_simp
    go_wp2_with fail
    refine (rreduce_any _ _ _ (by omega) (by omega) (by omega) (by omega) HNE.out).mono ?_; rintro e w3 ⟨rfl, hb3'⟩
    have hb3 := hb4.trans (hb3'.mono hb4.size); clear hc4 hf4 hb4 hb3' q0 q1
    obtain ⟨hc3, hf3⟩ := bcell hb3
    have hz3 : w.heap.size + 1 + 1 < w3.heap.size := by have := hb3.size; simp at this; omega
    have q0 : w3.cell? ⟨w.heap.size + 1 + 1, 0, none⟩ = some (.int .i64 0) := by rw [hc3 _ _ (by simp)]; go_simp
    have q1 : w3.cell? ⟨w.heap.size + 1 + 1, 1, none⟩ = some (.int .i64 0) := by rw [hc3 _ _ (by simp)]; go_simp
    have hcl : ∀ (W : World) (o1 : Obj) (j : Nat), W.heap.size = w3.heap.size → (W.alloc o1).cell? ⟨w.heap.size + 1 + 1, j, none⟩ = W.cell? ⟨w.heap.size + 1 + 1, j, none⟩ := fun W o1 j h => by
      rw [World.cell?_alloc_lt _ _ _ (by simp; omega)]
    have HCL := Lib.hid hcl; clear hcl
    go_wp2_with fail
    refine bodyPost_ret (v := .tuple #[.agg #[.int .i64 (Rt.redN (a * d + c * b) (b * d)), .int .i64 (Rt.redD (a * d + c * b) (b * d))], .int .i64 (Rt.redE (a * d + c * b) (b * d))]) (by simp [results, Try.results16, go_sem, q0, q1, HCL.out]) rfl ⟨rfl, ?_⟩
    exact (((((((Below.refl _ _).alloc (Nat.le_refl _) _).alloc (by simp) _).alloc (by simp; omega) _).trans (hb3.mono (by simp; omega))).setCell (by simp; omega) _).setCell (by simp; omega) _).alloc (by simp; omega) _
  · have hv' : (Rt.vld a b && Rt.vld c d) = false := by simpa using hv
    rw [hv']
    exact radd_no a b c d _ _ rfl rfl hv' w
theorem radd_is (a b c d N D E : Int) (h : Rt.addR a b c d = (N, D, E)) (w : World) :
    Calls Try.prog 16 #[.agg #[.int .i64 a, .int .i64 b], .agg #[.int .i64 c, .int .i64 d]] w fun e w' =>
      e = .returned (.tuple #[.agg #[.int .i64 N, .int .i64 D], .int .i64 E]) ∧ Below w.heap.size w w' := by
  obtain ⟨rfl, rfl, rfl⟩ : Rt.opN (Rt.vld a b && Rt.vld c d) (a * d + c * b) (b * d) = N ∧ Rt.opD (Rt.vld a b && Rt.vld c d) (a * d + c * b) (b * d) = D ∧ Rt.opE (Rt.vld a b && Rt.vld c d) (a * d + c * b) (b * d) = E := by
    simpa [Rt.addR] using h
  exact radd_any a b c d w

set_option maxHeartbeats 800000 in
theorem rsub_no (a b c d : Int) (x y : Bool) (hx : Rt.vld a b = x) (hy : Rt.vld c d = y) (h : (x && y) = false) (w : World) :
    Calls Try.prog 18 #[.agg #[.int .i64 a, .int .i64 b], .agg #[.int .i64 c, .int .i64 d]] w fun e w' =>
      e = .returned (.tuple #[.agg #[.int .i64 0, .int .i64 0], .int .i64 1]) ∧ Below w.heap.size w w' := by
  have HV1 := Lib.hid hx
  have HV2 := Lib.hid hy
  clear hx hy
  go_enter Try.func18, Try.ntmps18
  go_wp2_with fail
  refine (both_is _ _ _ _ _ _ HV1.out HV2.out _).mono ?_; rintro e w2 ⟨rfl, hb4⟩
  obtain ⟨hc4, hf4⟩ := bcell hb4
  have hz2 : w.heap.size + 1 + 1 < w2.heap.size := by have := hb4.size; simp at this; omega
  have q0 : w2.cell? ⟨w.heap.size + 1 + 1, 0, none⟩ = some (.int .i64 0) := by rw [hc4 _ _ (by simp)]; go_simp
  have q1 : w2.cell? ⟨w.heap.size + 1 + 1, 1, none⟩ = some (.int .i64 0) := by rw [hc4 _ _ (by simp)]; go_simp
  go_wp2_with fail
  refine bodyPost_ret (v := .tuple #[.agg #[.int .i64 0, .int .i64 0], .int .i64 1]) (by simp [results, Try.results18, go_sem, q0, q1]) rfl ⟨rfl, ?_⟩
  exact ((((((Below.refl _ _).alloc (Nat.le_refl _) _).alloc (by simp) _).alloc (by simp; omega) _).trans (hb4.mono (by simp; omega))).setCell (by simp; omega) _).setCell (by simp; omega) _

set_option maxHeartbeats 1600000 in
theorem rsub_any (a b c d : Int) (w : World) :
    Calls Try.prog 18 #[.agg #[.int .i64 a, .int .i64 b], .agg #[.int .i64 c, .int .i64 d]] w fun e w' =>
      e = .returned (.tuple #[.agg #[.int .i64 (Rt.opN (Rt.vld a b && Rt.vld c d) (a * d - c * b) (b * d)), .int .i64 (Rt.opD (Rt.vld a b && Rt.vld c d) (a * d - c * b) (b * d))], .int .i64 (Rt.opE (Rt.vld a b && Rt.vld c d) (a * d - c * b) (b * d))]) ∧ Below w.heap.size w w' := by
  by_cases hv : (Rt.vld a b && Rt.vld c d) = true
  · rw [hv]
    obtain ⟨hv1, hv2⟩ := (Bool.and_eq_true _ _ ▸ hv : Rt.vld a b = true ∧ Rt.vld c d = true)
    obtain ⟨h1, h2, h3, h4⟩ := Rt.vld_lim hv1
    obtain ⟨h5, h6, h7, h8⟩ := Rt.vld_lim hv2
    have HV1 := Lib.hid hv1
    have HV2 := Lib.hid hv2
    clear hv hv1 hv2
    obtain ⟨⟨p1, p2⟩, ⟨p3, p4⟩, ⟨p5, p6⟩, ⟨p7, p8⟩, ⟨p9, p10⟩⟩ := muls_in a b c d h1 h2 h3 h4 h5 h6 h7 h8
    have hne : b * d ≠ 0 := Int.mul_ne_zero (by omega) (by omega)
    have HNE := Lib.hid hne; clear hne
    go_enter Try.func18, Try.ntmps18
    go_wp2_with fail
    refine (both_is _ _ _ _ _ _ HV1.out HV2.out _).mono ?_; rintro e w2 ⟨rfl, hb4⟩
    obtain ⟨hc4, hf4⟩ := bcell hb4
    have hz2 : w.heap.size + 1 + 1 < w2.heap.size := by have := hb4.size; simp at this; omega
    have q0 : w2.cell? ⟨w.heap.size + 1 + 1, 0, none⟩ = some (.int .i64 0) := by rw [hc4 _ _ (by simp)]; go_simp
    have q1 : w2.cell? ⟨w.heap.size + 1 + 1, 1, none⟩ = some (.int .i64 0) := by rw [hc4 _ _ (by simp)]; go_simp
    go_wp2_with fail
    refine (rreduce_any _ _ _ (by omega) (by omega) (by omega) (by omega) HNE.out).mono ?_; rintro e w3 ⟨rfl, hb3'⟩
    have hb3 := hb4.trans (hb3'.mono hb4.size); clear hc4 hf4 hb4 hb3' q0 q1
    obtain ⟨hc3, hf3⟩ := bcell hb3
    have hz3 : w.heap.size + 1 + 1 < w3.heap.size := by have := hb3.size; simp at this; omega
    have q0 : w3.cell? ⟨w.heap.size + 1 + 1, 0, none⟩ = some (.int .i64 0) := by rw [hc3 _ _ (by simp)]; go_simp
    have q1 : w3.cell? ⟨w.heap.size + 1 + 1, 1, none⟩ = some (.int .i64 0) := by rw [hc3 _ _ (by simp)]; go_simp
    have hcl : ∀ (W : World) (o1 : Obj) (j : Nat), W.heap.size = w3.heap.size → (W.alloc o1).cell? ⟨w.heap.size + 1 + 1, j, none⟩ = W.cell? ⟨w.heap.size + 1 + 1, j, none⟩ := fun W o1 j h => by
      rw [World.cell?_alloc_lt _ _ _ (by simp; omega)]
    have HCL := Lib.hid hcl; clear hcl
    go_wp2_with fail
    refine bodyPost_ret (v := .tuple #[.agg #[.int .i64 (Rt.redN (a * d - c * b) (b * d)), .int .i64 (Rt.redD (a * d - c * b) (b * d))], .int .i64 (Rt.redE (a * d - c * b) (b * d))]) (by simp [results, Try.results18, go_sem, q0, q1, HCL.out]) rfl ⟨rfl, ?_⟩
    exact (((((((Below.refl _ _).alloc (Nat.le_refl _) _).alloc (by simp) _).alloc (by simp; omega) _).trans (hb3.mono (by simp; omega))).setCell (by simp; omega) _).setCell (by simp; omega) _).alloc (by simp; omega) _
  · have hv' : (Rt.vld a b && Rt.vld c d) = false := by simpa using hv
    rw [hv']
    exact rsub_no a b c d _ _ rfl rfl hv' w
theorem rsub_is (a b c d N D E : Int) (h : Rt.subR a b c d = (N, D, E)) (w : World) :
    Calls Try.prog 18 #[.agg #[.int .i64 a, .int .i64 b], .agg #[.int .i64 c, .int .i64 d]] w fun e w' =>
      e = .returned (.tuple #[.agg #[.int .i64 N, .int .i64 D], .int .i64 E]) ∧ Below w.heap.size w w' := by
  obtain ⟨rfl, rfl, rfl⟩ : Rt.opN (Rt.vld a b && Rt.vld c d) (a * d - c * b) (b * d) = N ∧ Rt.opD (Rt.vld a b && Rt.vld c d) (a * d - c * b) (b * d) = D ∧ Rt.opE (Rt.vld a b && Rt.vld c d) (a * d - c * b) (b * d) = E := by
    simpa [Rt.subR] using h
  exact rsub_any a b c d w

set_option maxHeartbeats 800000 in
theorem rmul_no (a b c d : Int) (x y : Bool) (hx : Rt.vld a b = x) (hy : Rt.vld c d = y) (h : (x && y) = false) (w : World) :
    Calls Try.prog 20 #[.agg #[.int .i64 a, .int .i64 b], .agg #[.int .i64 c, .int .i64 d]] w fun e w' =>
      e = .returned (.tuple #[.agg #[.int .i64 0, .int .i64 0], .int .i64 1]) ∧ Below w.heap.size w w' := by
  have HV1 := Lib.hid hx
  have HV2 := Lib.hid hy
  clear hx hy
  go_enter Try.func20, Try.ntmps20
  go_wp2_with fail
  refine (both_is _ _ _ _ _ _ HV1.out HV2.out _).mono ?_; rintro e w2 ⟨rfl, hb4⟩
  obtain ⟨hc4, hf4⟩ := bcell hb4
  have hz2 : w.heap.size + 1 + 1 < w2.heap.size := by have := hb4.size; simp at this; omega
  have q0 : w2.cell? ⟨w.heap.size + 1 + 1, 0, none⟩ = some (.int .i64 0) := by rw [hc4 _ _ (by simp)]; go_simp
  have q1 : w2.cell? ⟨w.heap.size + 1 + 1, 1, none⟩ = some (.int .i64 0) := by rw [hc4 _ _ (by simp)]; go_simp
  go_wp2_with fail
  refine bodyPost_ret (v := .tuple #[.agg #[.int .i64 0, .int .i64 0], .int .i64 1]) (by simp [results, Try.results20, go_sem, q0, q1]) rfl ⟨rfl, ?_⟩
  exact ((((((Below.refl _ _).alloc (Nat.le_refl _) _).alloc (by simp) _).alloc (by simp; omega) _).trans (hb4.mono (by simp; omega))).setCell (by simp; omega) _).setCell (by simp; omega) _

set_option maxHeartbeats 1600000 in
theorem rmul_any (a b c d : Int) (w : World) :
    Calls Try.prog 20 #[.agg #[.int .i64 a, .int .i64 b], .agg #[.int .i64 c, .int .i64 d]] w fun e w' =>
      e = .returned (.tuple #[.agg #[.int .i64 (Rt.opN (Rt.vld a b && Rt.vld c d) (a * c) (b * d)), .int .i64 (Rt.opD (Rt.vld a b && Rt.vld c d) (a * c) (b * d))], .int .i64 (Rt.opE (Rt.vld a b && Rt.vld c d) (a * c) (b * d))]) ∧ Below w.heap.size w w' := by
  by_cases hv : (Rt.vld a b && Rt.vld c d) = true
  · rw [hv]
    obtain ⟨hv1, hv2⟩ := (Bool.and_eq_true _ _ ▸ hv : Rt.vld a b = true ∧ Rt.vld c d = true)
    obtain ⟨h1, h2, h3, h4⟩ := Rt.vld_lim hv1
    obtain ⟨h5, h6, h7, h8⟩ := Rt.vld_lim hv2
    have HV1 := Lib.hid hv1
    have HV2 := Lib.hid hv2
    clear hv hv1 hv2
    obtain ⟨⟨p1, p2⟩, ⟨p3, p4⟩, ⟨p5, p6⟩, ⟨p7, p8⟩, ⟨p9, p10⟩⟩ := muls_in a b c d h1 h2 h3 h4 h5 h6 h7 h8
    have hne : b * d ≠ 0 := Int.mul_ne_zero (by omega) (by omega)
    have HNE := Lib.hid hne; clear hne
    go_enter Try.func20, Try.ntmps20
    go_wp2_with fail
    refine (both_is _ _ _ _ _ _ HV1.out HV2.out _).mono ?_; rintro e w2 ⟨rfl, hb4⟩
    obtain ⟨hc4, hf4⟩ := bcell hb4
    have hz2 : w.heap.size + 1 + 1 < w2.heap.size := by have := hb4.size; simp at this; omega
    have q0 : w2.cell? ⟨w.heap.size + 1 + 1, 0, none⟩ = some (.int .i64 0) := by rw [hc4 _ _ (by simp)]; go_simp
    have q1 : w2.cell? ⟨w.heap.size + 1 + 1, 1, none⟩ = some (.int .i64 0) := by rw [hc4 _ _ (by simp)]; go_simp
    go_wp2_with fail
    refine (rreduce_any _ _ _ (by omega) (by omega) (by omega) (by omega) HNE.out).mono ?_; rintro e w3 ⟨rfl, hb3'⟩
    have hb3 := hb4.trans (hb3'.mono hb4.size); clear hc4 hf4 hb4 hb3' q0 q1
    obtain ⟨hc3, hf3⟩ := bcell hb3
    have hz3 : w.heap.size + 1 + 1 < w3.heap.size := by have := hb3.size; simp at this; omega
    have q0 : w3.cell? ⟨w.heap.size + 1 + 1, 0, none⟩ = some (.int .i64 0) := by rw [hc3 _ _ (by simp)]; go_simp
    have q1 : w3.cell? ⟨w.heap.size + 1 + 1, 1, none⟩ = some (.int .i64 0) := by rw [hc3 _ _ (by simp)]; go_simp
    have hcl : ∀ (W : World) (o1 : Obj) (j : Nat), W.heap.size = w3.heap.size → (W.alloc o1).cell? ⟨w.heap.size + 1 + 1, j, none⟩ = W.cell? ⟨w.heap.size + 1 + 1, j, none⟩ := fun W o1 j h => by
      rw [World.cell?_alloc_lt _ _ _ (by simp; omega)]
    have HCL := Lib.hid hcl; clear hcl
    go_wp2_with fail
    refine bodyPost_ret (v := .tuple #[.agg #[.int .i64 (Rt.redN (a * c) (b * d)), .int .i64 (Rt.redD (a * c) (b * d))], .int .i64 (Rt.redE (a * c) (b * d))]) (by simp [results, Try.results20, go_sem, q0, q1, HCL.out]) rfl ⟨rfl, ?_⟩
    exact (((((((Below.refl _ _).alloc (Nat.le_refl _) _).alloc (by simp) _).alloc (by simp; omega) _).trans (hb3.mono (by simp; omega))).setCell (by simp; omega) _).setCell (by simp; omega) _).alloc (by simp; omega) _
  · have hv' : (Rt.vld a b && Rt.vld c d) = false := by simpa using hv
    rw [hv']
    exact rmul_no a b c d _ _ rfl rfl hv' w
theorem rmul_is (a b c d N D E : Int) (h : Rt.mulR a b c d = (N, D, E)) (w : World) :
    Calls Try.prog 20 #[.agg #[.int .i64 a, .int .i64 b], .agg #[.int .i64 c, .int .i64 d]] w fun e w' =>
      e = .returned (.tuple #[.agg #[.int .i64 N, .int .i64 D], .int .i64 E]) ∧ Below w.heap.size w w' := by
  obtain ⟨rfl, rfl, rfl⟩ : Rt.opN (Rt.vld a b && Rt.vld c d) (a * c) (b * d) = N ∧ Rt.opD (Rt.vld a b && Rt.vld c d) (a * c) (b * d) = D ∧ Rt.opE (Rt.vld a b && Rt.vld c d) (a * c) (b * d) = E := by
    simpa [Rt.mulR] using h
  exact rmul_any a b c d w

set_option maxHeartbeats 800000 in
theorem rdiv_no (a b c d : Int) (x y : Bool) (hx : Rt.vld a b = x) (hy : Rt.vld c d = y) (h : (x && y) = false) (w : World) :
    Calls Try.prog 22 #[.agg #[.int .i64 a, .int .i64 b], .agg #[.int .i64 c, .int .i64 d]] w fun e w' =>
      e = .returned (.tuple #[.agg #[.int .i64 0, .int .i64 0], .int .i64 1]) ∧ Below w.heap.size w w' := by
  have HV1 := Lib.hid hx
  have HV2 := Lib.hid hy
  clear hx hy
  go_enter Try.func22, Try.ntmps22
  go_wp2_with fail
  refine (both_is _ _ _ _ _ _ HV1.out HV2.out _).mono ?_; rintro e w2 ⟨rfl, hb4⟩
  obtain ⟨hc4, hf4⟩ := bcell hb4
  have hz2 : w.heap.size + 1 + 1 < w2.heap.size := by have := hb4.size; simp at this; omega
  have q0 : w2.cell? ⟨w.heap.size + 1 + 1, 0, none⟩ = some (.int .i64 0) := by rw [hc4 _ _ (by simp)]; go_simp
  have q1 : w2.cell? ⟨w.heap.size + 1 + 1, 1, none⟩ = some (.int .i64 0) := by rw [hc4 _ _ (by simp)]; go_simp
  go_wp2_with fail
  refine bodyPost_ret (v := .tuple #[.agg #[.int .i64 0, .int .i64 0], .int .i64 1]) (by simp [results, Try.results22, go_sem, q0, q1]) rfl ⟨rfl, ?_⟩
  exact ((((((Below.refl _ _).alloc (Nat.le_refl _) _).alloc (by simp) _).alloc (by simp; omega) _).trans (hb4.mono (by simp; omega))).setCell (by simp; omega) _).setCell (by simp; omega) _

set_option maxHeartbeats 1600000 in
theorem rdiv_any (a b c d : Int) (w : World) :
    Calls Try.prog 22 #[.agg #[.int .i64 a, .int .i64 b], .agg #[.int .i64 c, .int .i64 d]] w fun e w' =>
      e = .returned (.tuple #[.agg #[.int .i64 (Rt.opN (Rt.vld a b && Rt.vld c d) (a * d) (b * c)), .int .i64 (Rt.opD (Rt.vld a b && Rt.vld c d) (a * d) (b * c))], .int .i64 (Rt.opE (Rt.vld a b && Rt.vld c d) (a * d) (b * c))]) ∧ Below w.heap.size w w' := by
  by_cases hv : (Rt.vld a b && Rt.vld c d) = true
  · rw [hv]
    obtain ⟨hv1, hv2⟩ := (Bool.and_eq_true _ _ ▸ hv : Rt.vld a b = true ∧ Rt.vld c d = true)
    obtain ⟨h1, h2, h3, h4⟩ := Rt.vld_lim hv1
    obtain ⟨h5, h6, h7, h8⟩ := Rt.vld_lim hv2
    have HV1 := Lib.hid hv1
    have HV2 := Lib.hid hv2
    clear hv hv1 hv2
    by_cases hc0 : c = 0
    · subst hc0
      have e0 : Rt.redE (a * d) (b * 0) = 1 := Rt.redE_one.2 (by simp)
      obtain ⟨e1, e2⟩ := Rt.red_err (n := a * d) (d := b * 0) (by omega)
      obtain ⟨o1, o2, o3⟩ := Rt.op_yes (a * d) (b * 0)
      rw [o1, o2, o3, e0, e1, e2]
      clear e0 e1 e2 o1 o2 o3
      go_enter Try.func22, Try.ntmps22
      go_wp2_with fail
      refine (both_is _ _ _ _ _ _ HV1.out HV2.out _).mono ?_; rintro e w2 ⟨rfl, hb4⟩
      obtain ⟨hc4, hf4⟩ := bcell hb4
      have hz2 : w.heap.size + 1 + 1 < w2.heap.size := by have := hb4.size; simp at this; omega
      have q0 : w2.cell? ⟨w.heap.size + 1 + 1, 0, none⟩ = some (.int .i64 0) := by rw [hc4 _ _ (by simp)]; go_simp
      have q1 : w2.cell? ⟨w.heap.size + 1 + 1, 1, none⟩ = some (.int .i64 0) := by rw [hc4 _ _ (by simp)]; go_simp
      go_wp2_with fail
      refine bodyPost_ret (v := .tuple #[.agg #[.int .i64 0, .int .i64 0], .int .i64 1]) (by simp [results, Try.results22, go_sem, q0, q1]) rfl ⟨rfl, ?_⟩
      exact ((((((Below.refl _ _).alloc (Nat.le_refl _) _).alloc (by simp) _).alloc (by simp; omega) _).trans (hb4.mono (by simp; omega))).setCell (by simp; omega) _).setCell (by simp; omega) _
    have hcb : (c == 0) = false := by simpa using hc0
    obtain ⟨⟨p1, p2⟩, ⟨p3, p4⟩, ⟨p5, p6⟩, ⟨p7, p8⟩, ⟨p9, p10⟩⟩ := muls_in a b c d h1 h2 h3 h4 h5 h6 h7 h8
    have hne : b * c ≠ 0 := Int.mul_ne_zero (by omega) hc0
    have HNE := Lib.hid hne; clear hne
    go_enter Try.func22, Try.ntmps22
    go_wp2_with fail
    refine (both_is _ _ _ _ _ _ HV1.out HV2.out _).mono ?_; rintro e w2 ⟨rfl, hb4⟩
    obtain ⟨hc4, hf4⟩ := bcell hb4
    have hz2 : w.heap.size + 1 + 1 < w2.heap.size := by have := hb4.size; simp at this; omega
    have q0 : w2.cell? ⟨w.heap.size + 1 + 1, 0, none⟩ = some (.int .i64 0) := by rw [hc4 _ _ (by simp)]; go_simp
    have q1 : w2.cell? ⟨w.heap.size + 1 + 1, 1, none⟩ = some (.int .i64 0) := by rw [hc4 _ _ (by simp)]; go_simp
    go_wp2_with fail
    refine (rreduce_any _ _ _ (by omega) (by omega) (by omega) (by omega) HNE.out).mono ?_; rintro e w3 ⟨rfl, hb3'⟩
    have hb3 := hb4.trans (hb3'.mono hb4.size); clear hc4 hf4 hb4 hb3' q0 q1
    obtain ⟨hc3, hf3⟩ := bcell hb3
    have hz3 : w.heap.size + 1 + 1 < w3.heap.size := by have := hb3.size; simp at this; omega
    have q0 : w3.cell? ⟨w.heap.size + 1 + 1, 0, none⟩ = some (.int .i64 0) := by rw [hc3 _ _ (by simp)]; go_simp
    have q1 : w3.cell? ⟨w.heap.size + 1 + 1, 1, none⟩ = some (.int .i64 0) := by rw [hc3 _ _ (by simp)]; go_simp
    have hcl : ∀ (W : World) (o1 : Obj) (j : Nat), W.heap.size = w3.heap.size → (W.alloc o1).cell? ⟨w.heap.size + 1 + 1, j, none⟩ = W.cell? ⟨w.heap.size + 1 + 1, j, none⟩ := fun W o1 j h => by
      rw [World.cell?_alloc_lt _ _ _ (by simp; omega)]
    have HCL := Lib.hid hcl; clear hcl
    go_wp2_with fail
    refine bodyPost_ret (v := .tuple #[.agg #[.int .i64 (Rt.redN (a * d) (b * c)), .int .i64 (Rt.redD (a * d) (b * c))], .int .i64 (Rt.redE (a * d) (b * c))]) (by simp [results, Try.results22, go_sem, q0, q1, HCL.out]) rfl ⟨rfl, ?_⟩
    exact (((((((Below.refl _ _).alloc (Nat.le_refl _) _).alloc (by simp) _).alloc (by simp; omega) _).trans (hb3.mono (by simp; omega))).setCell (by simp; omega) _).setCell (by simp; omega) _).alloc (by simp; omega) _
  · have hv' : (Rt.vld a b && Rt.vld c d) = false := by simpa using hv
    rw [hv']
    exact rdiv_no a b c d _ _ rfl rfl hv' w
theorem rdiv_is (a b c d N D E : Int) (h : Rt.divR a b c d = (N, D, E)) (w : World) :
    Calls Try.prog 22 #[.agg #[.int .i64 a, .int .i64 b], .agg #[.int .i64 c, .int .i64 d]] w fun e w' =>
      e = .returned (.tuple #[.agg #[.int .i64 N, .int .i64 D], .int .i64 E]) ∧ Below w.heap.size w w' := by
  obtain ⟨rfl, rfl, rfl⟩ : Rt.opN (Rt.vld a b && Rt.vld c d) (a * d) (b * c) = N ∧ Rt.opD (Rt.vld a b && Rt.vld c d) (a * d) (b * c) = D ∧ Rt.opE (Rt.vld a b && Rt.vld c d) (a * d) (b * c) = E := by
    simpa [Rt.divR] using h
  exact rdiv_any a b c d w

set_option maxHeartbeats 1600000 in
theorem rmake_no (n d : Int) (w : World) (h : d = 0 ∨ n < -1000000000000000 ∨ 1000000000000000 < n ∨ d < -1000000000000000 ∨ 1000000000000000 < d) :
    Calls Try.prog 12 #[.int .i64 n, .int .i64 d] w fun e w' =>
      e = .returned (.tuple #[.agg #[.int .i64 0, .int .i64 0], .int .i64 1]) ∧ Below w.heap.size w w' := by
  by_cases h0 : d = 0
  · subst h0
    clear h
    go_enter Try.func12, Try.ntmps12
    go_wp2_with fail
    refine bodyPost_ret (v := .tuple #[.agg #[.int .i64 0, .int .i64 0], .int .i64 1]) (by simp [results, Try.results12, go_sem]) rfl ⟨rfl, by go_grown⟩
  · have hb : (d == 0) = false := by simpa using h0
    by_cases h1 : n < -1000000000000000
    · clear h
      go_enter Try.func12, Try.ntmps12
      go_wp2_with fail
      refine bodyPost_ret (v := .tuple #[.agg #[.int .i64 0, .int .i64 0], .int .i64 1]) (by simp [results, Try.results12, go_sem]) rfl ⟨rfl, by go_grown⟩
    · by_cases h2 : 1000000000000000 < n
      · clear h
        go_enter Try.func12, Try.ntmps12
        go_wp2_with fail
        refine bodyPost_ret (v := .tuple #[.agg #[.int .i64 0, .int .i64 0], .int .i64 1]) (by simp [results, Try.results12, go_sem]) rfl ⟨rfl, by go_grown⟩
      · by_cases h3 : d < -1000000000000000
        · clear h
          go_enter Try.func12, Try.ntmps12
          go_wp2_with fail
          refine bodyPost_ret (v := .tuple #[.agg #[.int .i64 0, .int .i64 0], .int .i64 1]) (by simp [results, Try.results12, go_sem]) rfl ⟨rfl, by go_grown⟩
        · have h4 : 1000000000000000 < d := by omega
          clear h
          go_enter Try.func12, Try.ntmps12
          go_wp2_with fail
          refine bodyPost_ret (v := .tuple #[.agg #[.int .i64 0, .int .i64 0], .int .i64 1]) (by simp [results, Try.results12, go_sem]) rfl ⟨rfl, by go_grown⟩

set_option maxHeartbeats 1600000 in
theorem rmake_any (n d : Int) (w : World) :
    Calls Try.prog 12 #[.int .i64 n, .int .i64 d] w fun e w' =>
      e = .returned (.tuple #[.agg #[.int .i64 (Rt.opN (Rt.takes n d) n d), .int .i64 (Rt.opD (Rt.takes n d) n d)], .int .i64 (Rt.opE (Rt.takes n d) n d)]) ∧ Below w.heap.size w w' := by
  by_cases hv : Rt.takes n d = true
  · rw [hv]
    obtain ⟨h1, h2, h3, h4⟩ := Rt.takes_iff.1 hv
    clear hv
    by_cases h0 : d = 0
    · subst h0
      have e0 : Rt.redE n 0 = 1 := Rt.redE_one.2 rfl
      obtain ⟨e1, e2⟩ := Rt.red_err (n := n) (d := 0) (by omega)
      obtain ⟨o1, o2, o3⟩ := Rt.op_yes n 0
      rw [o1, o2, o3, e0, e1, e2]
      exact rmake_no n 0 w (Or.inl rfl)
    · have hb : (d == 0) = false := by simpa using h0
      have HN := Lib.hid h0
      go_enter Try.func12, Try.ntmps12
      go_wp2_with fail
      refine (rreduce_any _ _ _ (by omega) (by omega) (by omega) (by omega) HN.out).mono ?_; rintro e w4 ⟨rfl, hb4⟩
      obtain ⟨hc4, hf4⟩ := bcell hb4
      have hz4 : w.heap.size < w4.heap.size := by have := hb4.size; simp at this; omega
      have q0 : w4.cell? ⟨w.heap.size, 0, none⟩ = some (.int .i64 0) := by rw [hc4 _ _ (by simp)]; go_simp
      have q1 : w4.cell? ⟨w.heap.size, 1, none⟩ = some (.int .i64 0) := by rw [hc4 _ _ (by simp)]; go_simp
      have hcl : ∀ (W : World) (o1 : Obj) (j : Nat), W.heap.size = w4.heap.size → (W.alloc o1).cell? ⟨w.heap.size, j, none⟩ = W.cell? ⟨w.heap.size, j, none⟩ := fun W o1 j h => by
        rw [World.cell?_alloc_lt _ _ _ (by simp; omega)]
      have HCL := Lib.hid hcl; clear hcl
      go_wp2_with fail
      refine bodyPost_ret (v := .tuple #[.agg #[.int .i64 (Rt.redN n d), .int .i64 (Rt.redD n d)], .int .i64 (Rt.redE n d)]) (by simp [results, Try.results12, go_sem, q0, q1, HCL.out]) rfl ⟨rfl, ?_⟩
      exact (((((Below.refl _ _).alloc (Nat.le_refl _) _).trans (hb4.mono (by simp))).setCell (by simp) _).setCell (by simp) _).alloc (by simp; omega) _
  · have hv' : Rt.takes n d = false := by simpa using hv
    rw [hv']
    exact rmake_no n d w (Or.inr (Rt.takes_no hv'))
theorem rmake_is (n d N D E : Int) (h : Rt.makeR n d = (N, D, E)) (w : World) :
    Calls Try.prog 12 #[.int .i64 n, .int .i64 d] w fun e w' =>
      e = .returned (.tuple #[.agg #[.int .i64 N, .int .i64 D], .int .i64 E]) ∧ Below w.heap.size w w' := by
  obtain ⟨rfl, rfl, rfl⟩ : Rt.opN (Rt.takes n d) n d = N ∧ Rt.opD (Rt.takes n d) n d = D ∧ Rt.opE (Rt.takes n d) n d = E := by simpa [Rt.makeR] using h
  exact rmake_any n d w

set_option maxHeartbeats 400000 in
theorem rcmp_any (a b c d : Int) (w : World) (h1 : -1000000000 ≤ a) (h2 : a ≤ 1000000000) (h3 : 1 ≤ b) (h4 : b ≤ 1000000) (h5 : -1000000000 ≤ c) (h6 : c ≤ 1000000000) (h7 : 1 ≤ d) (h8 : d ≤ 1000000) :
    Calls Try.prog 45 #[.agg #[.int .i64 a, .int .i64 b], .agg #[.int .i64 c, .int .i64 d]] w fun e w' =>
      e = .returned (.int .i64 (Rt.cmpI (a * d) (c * b))) ∧ Below w.heap.size w w' := by
  obtain ⟨⟨p1, p2⟩, ⟨p3, p4⟩, _⟩ := muls_in a b c d h1 h2 h3 h4 h5 h6 h7 h8
  by_cases g1 : a * d < c * b
  · have e : Rt.cmpI (a * d) (c * b) = -1 := by unfold Rt.cmpI; rw [if_pos g1]
    rw [e]; clear e
    go_enter Try.func45, Try.ntmps45
    go_wp2_with fail
    go_ret
    exact ⟨rfl, by go_grown⟩
  · by_cases g2 : c * b < a * d
    · have e : Rt.cmpI (a * d) (c * b) = 1 := by unfold Rt.cmpI; rw [if_neg g1, if_pos g2]
      rw [e]; clear e
      go_enter Try.func45, Try.ntmps45
      go_wp2_with fail
      go_ret
      exact ⟨rfl, by go_grown⟩
    · have e : Rt.cmpI (a * d) (c * b) = 0 := by unfold Rt.cmpI; rw [if_neg g1, if_neg g2]
      rw [e]; clear e
      go_enter Try.func45, Try.ntmps45
      go_wp2_with fail
      go_ret
      exact ⟨rfl, by go_grown⟩

set_option maxHeartbeats 400000 in
theorem rcompare_is (a b c d V E : Int) (h : Rt.cmpR a b c d = (V, E)) (w : World) :
    Calls Try.prog 26 #[.agg #[.int .i64 a, .int .i64 b], .agg #[.int .i64 c, .int .i64 d]] w fun e w' =>
      e = .returned (.tuple #[.int .i64 V, .int .i64 E]) ∧ Below w.heap.size w w' := by
  obtain ⟨rfl, rfl⟩ : Rt.cmpV (Rt.vld a b && Rt.vld c d) (a * d) (c * b) = V ∧ Rt.cmpE (Rt.vld a b && Rt.vld c d) = E := by simpa [Rt.cmpR] using h
  clear h
  by_cases hv : (Rt.vld a b && Rt.vld c d) = true
  · rw [hv]
    obtain ⟨hv1, hv2⟩ := (Bool.and_eq_true _ _ ▸ hv : Rt.vld a b = true ∧ Rt.vld c d = true)
    have HL1 := Lib.hid (Rt.vld_lim hv1)
    have HL2 := Lib.hid (Rt.vld_lim hv2)
    have HV1 := Lib.hid hv1
    have HV2 := Lib.hid hv2
    clear hv hv1 hv2
    go_enter Try.func26, Try.ntmps26
    go_wp2_with fail
    refine (both_is _ _ _ _ _ _ HV1.out HV2.out _).mono ?_; rintro e w2 ⟨rfl, hb4⟩
    obtain ⟨hc4, hf4⟩ := bcell hb4
    go_wp2_with fail
    refine (rcmp_any _ _ _ _ _ HL1.out.1 HL1.out.2.1 HL1.out.2.2.1 HL1.out.2.2.2 HL2.out.1 HL2.out.2.1 HL2.out.2.2.1 HL2.out.2.2.2).mono ?_; rintro e w3 ⟨rfl, hb3'⟩
    have hb3 := hb4.trans (hb3'.mono hb4.size); clear hc4 hf4 hb4 hb3'
    go_wp2_with fail
    go_ret2
    exact ⟨rfl, (((Below.refl _ _).alloc (Nat.le_refl _) _).alloc (by simp) _).trans (hb3.mono (by simp; omega))⟩
  · have hv' : (Rt.vld a b && Rt.vld c d) = false := by simpa using hv
    rw [hv']
    obtain ⟨x, hx⟩ : ∃ x, Rt.vld a b = x := ⟨_, rfl⟩
    obtain ⟨y, hy⟩ : ∃ y, Rt.vld c d = y := ⟨_, rfl⟩
    rw [hx, hy] at hv'
    have HV1 := Lib.hid hx
    have HV2 := Lib.hid hy
    clear hv hx hy
    go_enter Try.func26, Try.ntmps26
    go_wp2_with fail
    refine (both_is _ _ _ _ _ _ HV1.out HV2.out _).mono ?_; rintro e w2 ⟨rfl, hb4⟩
    rw [hv']
    clear hv'
    go_wp2_with fail
    go_ret2
    exact ⟨rfl, (((Below.refl _ _).alloc (Nat.le_refl _) _).alloc (by simp) _).trans (hb4.mono (by simp; omega))⟩

set_option maxHeartbeats 400000 in
theorem rfloor_any (a b : Int) (w : World) :
    Calls Try.prog 28 #[.agg #[.int .i64 a, .int .i64 b]] w fun e w' =>
      e = .returned (.tuple #[.int .i64 (Rt.flV (Rt.vld a b) a b), .int .i64 (Rt.cmpE (Rt.vld a b))]) ∧ Below w.heap.size w w' := by
  by_cases hv1 : Rt.vld a b = true
  · rw [hv1]
    obtain ⟨h1, h2, h3, h4⟩ := Rt.vld_lim hv1
    have h5 : ¬ b = 0 := by omega
    have h6 : (b == 0) = false := by simpa using h5
    have h9 : -1000000000 ≤ a.tdiv b ∧ a.tdiv b ≤ 1000000000 := by have := Int.natAbs_tdiv_le_natAbs a b; omega
    obtain ⟨h10, h11⟩ := h9
    have HV1 := Lib.hid hv1
    clear hv1
    by_cases hr : a.tmod b < 0
    · have HE := Lib.hid (Rt.floor_less (by omega) hr)
      have hr' : decide (a.tmod b < 0) = true := by simpa using hr
      go_enter Try.func28, Try.ntmps28
      go_wp2_with fail
      refine (rvalid_is _ _ _ HV1.out _).mono ?_; rintro e w1 ⟨rfl, hb1⟩
      obtain ⟨hc1, hf1⟩ := bcell hb1
      go_wp2_with fail
      go_ret2
      refine ⟨?_, ((Below.refl _ _).alloc (Nat.le_refl _) _).trans (hb1.mono (by simp))⟩
      unfold Rt.flV; rw [if_pos rfl, ← HE.out]; rfl
    · have HE := Lib.hid (Rt.floor_same (by omega) hr)
      have hr' : decide (a.tmod b < 0) = false := by simpa using hr
      go_enter Try.func28, Try.ntmps28
      go_wp2_with fail
      refine (rvalid_is _ _ _ HV1.out _).mono ?_; rintro e w1 ⟨rfl, hb1⟩
      obtain ⟨hc1, hf1⟩ := bcell hb1
      go_wp2_with fail
      go_ret2
      refine ⟨?_, ((Below.refl _ _).alloc (Nat.le_refl _) _).trans (hb1.mono (by simp))⟩
      unfold Rt.flV; rw [if_pos rfl, ← HE.out]; rfl
  · have hv1' : Rt.vld a b = false := by simpa using hv1
    rw [hv1']
    have HV1 := Lib.hid hv1'
    clear hv1 hv1'
    go_enter Try.func28, Try.ntmps28
    go_wp2_with fail
    refine (rvalid_is _ _ _ HV1.out _).mono ?_; rintro e w1 ⟨rfl, hb1⟩
    go_wp2_with fail
    go_ret2
    exact ⟨rfl, ((Below.refl _ _).alloc (Nat.le_refl _) _).trans (hb1.mono (by simp))⟩
theorem rfloor_is (a b V E : Int) (h : Rt.flR a b = (V, E)) (w : World) :
    Calls Try.prog 28 #[.agg #[.int .i64 a, .int .i64 b]] w fun e w' =>
      e = .returned (.tuple #[.int .i64 V, .int .i64 E]) ∧ Below w.heap.size w w' := by
  obtain ⟨rfl, rfl⟩ : Rt.flV (Rt.vld a b) a b = V ∧ Rt.cmpE (Rt.vld a b) = E := by simpa [Rt.flR] using h
  exact rfloor_any a b w

end Go.Proofs.Ytmcjgplinacdaaa
