/- The walks of 'Compare', 'Floor' and 'Make' of package ratio. -/
import Derived.Test.YtmcjgplinacdaaaOps
namespace Go.Proofs.Ytmcjgplinacdaaa
open Go.RowKit

def Rt.cmpI (x y : Int) : Int := if x < y then -1 else if y < x then 1 else 0

set_option maxHeartbeats 400000 in
theorem isNaN_any (n : Int) (w : World) :
    Calls Try.prog 47 #[.int .i64 n] w fun e w' => e = .returned (.bool false) ∧ w = w' := by
  have h : (n != n) = false := by simp
  go_enter Try.func47, Try.ntmps47
  go_wp2
  go_ret
  exact ⟨rfl, rfl⟩

set_option maxHeartbeats 400000 in
theorem compare_int (x y : Int) (w : World) :
    Calls Try.prog 44 #[.int .i64 x, .int .i64 y] w fun e w' => e = .returned (.int .i64 (Rt.cmpI x y)) ∧ w = w' := by
  by_cases h1 : x < y
  · have e : Rt.cmpI x y = -1 := by unfold Rt.cmpI; rw [if_pos h1]
    rw [e]; clear e
    go_enter Try.func44, Try.ntmps44
    go_wp2_with (go_at_call 47; refine (isNaN_any _ _).mono ?_; rintro e w' ⟨rfl, rfl⟩)
    go_ret
    exact ⟨rfl, rfl⟩
  · by_cases h2 : y < x
    · have e : Rt.cmpI x y = 1 := by unfold Rt.cmpI; rw [if_neg h1, if_pos h2]
      rw [e]; clear e
      go_enter Try.func44, Try.ntmps44
      go_wp2_with (go_at_call 47; refine (isNaN_any _ _).mono ?_; rintro e w' ⟨rfl, rfl⟩)
      go_ret
      exact ⟨rfl, rfl⟩
    · have e : Rt.cmpI x y = 0 := by unfold Rt.cmpI; rw [if_neg h1, if_neg h2]
      rw [e]; clear e
      go_enter Try.func44, Try.ntmps44
      go_wp2_with (go_at_call 47; refine (isNaN_any _ _).mono ?_; rintro e w' ⟨rfl, rfl⟩)
      go_ret
      exact ⟨rfl, rfl⟩

def Rt.cmpV (ok : Bool) (x y : Int) : Int := if ok = true then Rt.cmpI x y else 0
def Rt.cmpE (ok : Bool) : Int := if ok = true then 0 else 1

set_option maxHeartbeats 400000 in
theorem compare_any (a b c d : Int) (w : World) :
    Calls Try.prog 25 #[.agg #[.int .i64 a, .int .i64 b], .agg #[.int .i64 c, .int .i64 d]] w fun e w' =>
      e = .returned (.tuple #[.int .i64 (Rt.cmpV (Rt.vld a b && Rt.vld c d) (a * d) (c * b)), .int .i64 (Rt.cmpE (Rt.vld a b && Rt.vld c d))]) ∧ Below w.heap.size w w' := by
  by_cases hv1 : Rt.vld a b = true
  · by_cases hv2 : Rt.vld c d = true
    · rw [hv1, hv2]
      obtain ⟨h1, h2, h3, h4⟩ := Rt.vld_lim hv1
      obtain ⟨h5, h6, h7, h8⟩ := Rt.vld_lim hv2
      obtain ⟨⟨p1, p2⟩, ⟨p3, p4⟩, _⟩ := muls_in a b c d h1 h2 h3 h4 h5 h6 h7 h8
      have HV1 := Lib.hid hv1
      have HV2 := Lib.hid hv2
      clear hv1 hv2
      go_enter Try.func25, Try.ntmps25
      go_wp2_with fail
      refine (valid_is _ _ _ HV1.out _).mono ?_; rintro e w1 ⟨rfl, hb1⟩
      obtain ⟨hc1, hf1⟩ := bcell hb1
      have hz1 : w.heap.size + 1 < w1.heap.size ∨ w.heap.size + 1 + 1 ≤ w1.heap.size := by have := hb1.size; simp at this; omega
      clear hz1
      go_wp2_with fail
      refine (valid_is _ _ _ HV2.out _).mono ?_; rintro e w2 ⟨rfl, hb2'⟩
      have hb2 := hb1.trans (hb2'.mono hb1.size); clear hc1 hf1 hb1 hb2'
      obtain ⟨hc2, hf2⟩ := bcell hb2
      go_wp2_with fail
      refine (compare_int _ _ _).mono ?_; rintro e w3 ⟨rfl, rfl⟩
      go_wp2_with fail
      go_ret2
      exact ⟨rfl, (((Below.refl _ _).alloc (Nat.le_refl _) _).alloc (by simp) _).trans (hb2.mono (by simp; omega))⟩
    · have hv2' : Rt.vld c d = false := by simpa using hv2
      rw [hv1, hv2']
      have HV1 := Lib.hid hv1
      have HV2 := Lib.hid hv2'
      clear hv1 hv2 hv2'
      go_enter Try.func25, Try.ntmps25
      go_wp2_with fail
      refine (valid_is _ _ _ HV1.out _).mono ?_; rintro e w1 ⟨rfl, hb1⟩
      obtain ⟨hc1, hf1⟩ := bcell hb1
      go_wp2_with fail
      refine (valid_is _ _ _ HV2.out _).mono ?_; rintro e w2 ⟨rfl, hb2'⟩
      have hb2 := hb1.trans (hb2'.mono hb1.size); clear hc1 hf1 hb1 hb2'
      go_wp2_with fail
      go_ret2
      exact ⟨rfl, (((Below.refl _ _).alloc (Nat.le_refl _) _).alloc (by simp) _).trans (hb2.mono (by simp; omega))⟩
  · have hv1' : Rt.vld a b = false := by simpa using hv1
    rw [hv1']
    have HV1 := Lib.hid hv1'
    clear hv1 hv1'
    go_enter Try.func25, Try.ntmps25
    go_wp2_with fail
    refine (valid_is _ _ _ HV1.out _).mono ?_; rintro e w1 ⟨rfl, hb1⟩
    go_wp2_with fail
    go_ret2
    exact ⟨rfl, (((Below.refl _ _).alloc (Nat.le_refl _) _).alloc (by simp) _).trans (hb1.mono (by simp; omega))⟩

def Rt.cmpR (a b c d : Int) : Int × Int := (Rt.cmpV (Rt.vld a b && Rt.vld c d) (a * d) (c * b), Rt.cmpE (Rt.vld a b && Rt.vld c d))
theorem compare_is (a b c d V E : Int) (h : Rt.cmpR a b c d = (V, E)) (w : World) :
    Calls Try.prog 25 #[.agg #[.int .i64 a, .int .i64 b], .agg #[.int .i64 c, .int .i64 d]] w fun e w' =>
      e = .returned (.tuple #[.int .i64 V, .int .i64 E]) ∧ Below w.heap.size w w' := by
  obtain ⟨rfl, rfl⟩ : Rt.cmpV (Rt.vld a b && Rt.vld c d) (a * d) (c * b) = V ∧ Rt.cmpE (Rt.vld a b && Rt.vld c d) = E := by simpa [Rt.cmpR] using h
  exact compare_any a b c d w

/-- The floor of n / d, for d above 0; 0 for what is not valid. -/
def Rt.flV (ok : Bool) (n d : Int) : Int := if ok = true then n / d else 0

theorem Rt.floor_less {n d : Int} (hd : 0 < d) (h : n.tmod d < 0) : n.tdiv d - 1 = n / d := by
  have h1 := Int.mul_tdiv_add_tmod n d
  have h2 : n.tmod d > -d := by
    have := Int.natAbs_tmod n d
    have := Nat.mod_lt n.natAbs (show 0 < d.natAbs by omega)
    omega
  generalize n.tdiv d = q at *
  generalize n.tmod d = r at *
  have h3 : n / d = q - 1 ∧ n % d = r + d := (Int.ediv_emod_unique hd).2 ⟨by rw [Int.mul_sub]; omega, by omega, by omega⟩
  exact h3.1.symm
theorem Rt.floor_same {n d : Int} (hd : 0 < d) (h : ¬ n.tmod d < 0) : n.tdiv d = n / d := by
  have h1 := Int.mul_tdiv_add_tmod n d
  have h2 : n.tmod d < d := by
    have := Int.natAbs_tmod n d
    have := Nat.mod_lt n.natAbs (show 0 < d.natAbs by omega)
    omega
  generalize n.tdiv d = q at *
  generalize n.tmod d = r at *
  have h3 : n / d = q ∧ n % d = r := (Int.ediv_emod_unique hd).2 ⟨by omega, by omega, by omega⟩
  exact h3.1.symm

set_option maxHeartbeats 400000 in
theorem floor_any (a b : Int) (w : World) :
    Calls Try.prog 27 #[.agg #[.int .i64 a, .int .i64 b]] w fun e w' =>
      e = .returned (.tuple #[.int .i64 (Rt.flV (Rt.vld a b) a b), .int .i64 (Rt.cmpE (Rt.vld a b))]) ∧ Below w.heap.size w w' := by
  by_cases hv1 : Rt.vld a b = true
  · rw [hv1]
    obtain ⟨h1, h2, h3, h4⟩ := Rt.vld_lim hv1
    have h5 : ¬ b = 0 := by omega
    have h6 : (b == 0) = false := by simpa using h5
    obtain ⟨h7, h8⟩ := tdiv_in a b (by omega) (by omega)
    have h9 : -1000000000 ≤ a.tdiv b ∧ a.tdiv b ≤ 1000000000 := by have := Int.natAbs_tdiv_le_natAbs a b; omega
    obtain ⟨h10, h11⟩ := h9
    have HV1 := Lib.hid hv1
    clear hv1
    by_cases hr : a.tmod b < 0
    · have HE := Lib.hid (Rt.floor_less (by omega) hr)
      have hr' : decide (a.tmod b < 0) = true := by simpa using hr
      go_enter Try.func27, Try.ntmps27
      go_wp2_with fail
      refine (valid_is _ _ _ HV1.out _).mono ?_; rintro e w1 ⟨rfl, hb1⟩
      obtain ⟨hc1, hf1⟩ := bcell hb1
      go_wp2_with fail
      go_ret2
      refine ⟨?_, ((Below.refl _ _).alloc (Nat.le_refl _) _).trans (hb1.mono (by simp))⟩
      unfold Rt.flV; rw [if_pos rfl, ← HE.out]; rfl
    · have HE := Lib.hid (Rt.floor_same (by omega) hr)
      have hr' : decide (a.tmod b < 0) = false := by simpa using hr
      go_enter Try.func27, Try.ntmps27
      go_wp2_with fail
      refine (valid_is _ _ _ HV1.out _).mono ?_; rintro e w1 ⟨rfl, hb1⟩
      obtain ⟨hc1, hf1⟩ := bcell hb1
      go_wp2_with fail
      go_ret2
      refine ⟨?_, ((Below.refl _ _).alloc (Nat.le_refl _) _).trans (hb1.mono (by simp))⟩
      unfold Rt.flV; rw [if_pos rfl, ← HE.out]; rfl
  · have hv1' : Rt.vld a b = false := by simpa using hv1
    rw [hv1']
    have HV1 := Lib.hid hv1'
    clear hv1 hv1'
    go_enter Try.func27, Try.ntmps27
    go_wp2_with fail
    refine (valid_is _ _ _ HV1.out _).mono ?_; rintro e w1 ⟨rfl, hb1⟩
    go_wp2_with fail
    go_ret2
    exact ⟨rfl, ((Below.refl _ _).alloc (Nat.le_refl _) _).trans (hb1.mono (by simp))⟩

def Rt.flR (a b : Int) : Int × Int := (Rt.flV (Rt.vld a b) a b, Rt.cmpE (Rt.vld a b))
theorem floor_is (a b V E : Int) (h : Rt.flR a b = (V, E)) (w : World) :
    Calls Try.prog 27 #[.agg #[.int .i64 a, .int .i64 b]] w fun e w' =>
      e = .returned (.tuple #[.int .i64 V, .int .i64 E]) ∧ Below w.heap.size w w' := by
  obtain ⟨rfl, rfl⟩ : Rt.flV (Rt.vld a b) a b = V ∧ Rt.cmpE (Rt.vld a b) = E := by simpa [Rt.flR] using h
  exact floor_any a b w

/-- Are both numbers of a fraction such as Make takes? -/
def Rt.takes (n d : Int) : Bool := decide (-1000000000000000 ≤ n) && decide (n ≤ 1000000000000000) && decide (-1000000000000000 ≤ d) && decide (d ≤ 1000000000000000)
theorem Rt.takes_iff {n d : Int} : Rt.takes n d = true ↔ -1000000000000000 ≤ n ∧ n ≤ 1000000000000000 ∧ -1000000000000000 ≤ d ∧ d ≤ 1000000000000000 := by
  unfold Rt.takes; simp [and_assoc]
theorem Rt.takes_no {n d : Int} (h : Rt.takes n d = false) : n < -1000000000000000 ∨ 1000000000000000 < n ∨ d < -1000000000000000 ∨ 1000000000000000 < d := by
  have h' : ¬ (Rt.takes n d = true) := by simp [h]
  rw [Rt.takes_iff] at h'; omega

set_option maxHeartbeats 400000 in
theorem make_any (n d : Int) (w : World) :
    Calls Try.prog 11 #[.int .i64 n, .int .i64 d] w fun e w' =>
      e = .returned (.tuple #[.agg #[.int .i64 (Rt.opN (Rt.takes n d) n d), .int .i64 (Rt.opD (Rt.takes n d) n d)], .int .i64 (Rt.opE (Rt.takes n d) n d)]) ∧ Below w.heap.size w w' := by
  by_cases hv : Rt.takes n d = true
  · rw [hv]
    obtain ⟨h1, h2, h3, h4⟩ := Rt.takes_iff.1 hv
    clear hv
    go_enter Try.func11, Try.ntmps11
    go_wp2_with fail
    refine (between_yes _ _ _ _ (by omega) (by omega)).mono ?_; rintro e w1 ⟨rfl, rfl⟩
    go_wp2_with fail
    refine (between_yes _ _ _ _ (by omega) (by omega)).mono ?_; rintro e w1 ⟨rfl, rfl⟩
    go_wp2_with fail
    refine (reduce_any _ _ _ (by omega) (by omega) (by omega) (by omega)).mono ?_; rintro e w4 ⟨rfl, hb4⟩
    obtain ⟨hc4, hf4⟩ := bcell hb4
    have q0 : w4.cell? ⟨w.heap.size, 0, none⟩ = some (.int .i64 0) := by rw [hc4 _ _ (by simp)]; go_simp
    have q1 : w4.cell? ⟨w.heap.size, 1, none⟩ = some (.int .i64 0) := by rw [hc4 _ _ (by simp)]; go_simp
    go_wp2_with fail
    refine bodyPost_ret (v := .tuple #[.agg #[.int .i64 (Rt.redN n d), .int .i64 (Rt.redD n d)], .int .i64 (Rt.redE n d)]) (by simp [results, Try.results11, go_sem, q0, q1]) rfl ⟨rfl, ?_⟩
    exact ((((Below.refl _ _).alloc (Nat.le_refl _) _).trans (hb4.mono (by simp))).setCell (by simp) _).setCell (by simp) _
  · have hv' : Rt.takes n d = false := by simpa using hv
    rw [hv']
    have h := Rt.takes_no hv'
    clear hv hv'
    by_cases h1 : n < -1000000000000000 ∨ 1000000000000000 < n
    · have H := Lib.hid h1
      clear h h1
      go_enter Try.func11, Try.ntmps11
      go_wp2_with fail
      refine (between_no _ _ _ _ H.out).mono ?_; rintro e w1 ⟨rfl, rfl⟩
      go_wp2_with fail
      refine bodyPost_ret (v := .tuple #[.agg #[.int .i64 0, .int .i64 0], .int .i64 1]) (by simp [results, Try.results11, go_sem]) rfl ⟨rfl, ?_⟩
      go_grown
    · have H := Lib.hid (show d < -1000000000000000 ∨ 1000000000000000 < d by omega)
      have h2 : -1000000000000000 ≤ n ∧ n ≤ 1000000000000000 := by omega
      obtain ⟨h3, h4⟩ := h2
      clear h h1
      go_enter Try.func11, Try.ntmps11
      go_wp2_with fail
      refine (between_yes _ _ _ _ (by omega) (by omega)).mono ?_; rintro e w1 ⟨rfl, rfl⟩
      go_wp2_with fail
      refine (between_no _ _ _ _ H.out).mono ?_; rintro e w1 ⟨rfl, rfl⟩
      go_wp2_with fail
      refine bodyPost_ret (v := .tuple #[.agg #[.int .i64 0, .int .i64 0], .int .i64 1]) (by simp [results, Try.results11, go_sem]) rfl ⟨rfl, ?_⟩
      go_grown

def Rt.makeR (n d : Int) : Int × Int × Int := (Rt.opN (Rt.takes n d) n d, Rt.opD (Rt.takes n d) n d, Rt.opE (Rt.takes n d) n d)
theorem make_is (n d N D E : Int) (h : Rt.makeR n d = (N, D, E)) (w : World) :
    Calls Try.prog 11 #[.int .i64 n, .int .i64 d] w fun e w' =>
      e = .returned (.tuple #[.agg #[.int .i64 N, .int .i64 D], .int .i64 E]) ∧ Below w.heap.size w w' := by
  obtain ⟨rfl, rfl, rfl⟩ : Rt.opN (Rt.takes n d) n d = N ∧ Rt.opD (Rt.takes n d) n d = D ∧ Rt.opE (Rt.takes n d) n d = E := by simpa [Rt.makeR] using h
  exact make_any n d w
end Go.Proofs.Ytmcjgplinacdaaa
