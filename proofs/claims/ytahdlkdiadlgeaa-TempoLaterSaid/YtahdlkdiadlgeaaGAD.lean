import Derived.Test.YtahdlkdiadlgeaaGAB
import Derived.Test.YtahdlkdiadlgeaaGAC
/- What ratio makes of durations: sums, which one is less. -/
namespace Go.Proofs.Ytahdlkdiadlgeaa.Mt

theorem o_mul (n : Nat) : oN n * 1680 = (n : Int) * oD n := by
  have hg : 0 < Nat.gcd n 1680 := Nat.gcd_pos_of_pos_right _ (by omega)
  obtain ⟨a, ha⟩ := Nat.gcd_dvd_left n 1680
  obtain ⟨b, hb⟩ := Nat.gcd_dvd_right n 1680
  unfold oN oD
  rw [Nat.div_eq_of_eq_mul_right hg ha, Nat.div_eq_of_eq_mul_right hg hb]
  generalize Nat.gcd n 1680 = g at *
  have h1 : (n : Int) = (g : Int) * (a : Int) := by rw [← Int.natCast_mul, ← ha]
  have h2 : (1680 : Int) = (g : Int) * (b : Int) := by rw [← Int.natCast_mul, ← hb]; rfl
  rw [h1, h2]
  rw [← Int.mul_assoc, Int.mul_comm (a : Int) (g : Int)]
theorem oD_pos (n : Nat) : 1 ≤ oD n ∧ oD n ≤ 1680 := by
  have hg : 0 < Nat.gcd n 1680 := Nat.gcd_pos_of_pos_right _ (by omega)
  have hl : Nat.gcd n 1680 ≤ 1680 := Nat.gcd_le_right _ (by omega)
  unfold oD
  have h1 : 0 < 1680 / Nat.gcd n 1680 := Nat.div_pos hl hg
  have h2 := Nat.div_le_self 1680 (Nat.gcd n 1680)
  omega
theorem oN_le (n : Nat) : 0 ≤ oN n ∧ oN n ≤ (n : Int) := by
  unfold oN
  exact ⟨Int.natCast_nonneg _, Int.ofNat_le.2 (Nat.div_le_self ..)⟩
theorem o_vld {n : Nat} (h : n ≤ 1000000000) : Rt.vld (oN n) (oD n) = true := by
  have ht := tk_of h
  have hne : tk (oN n) (oD n) ≠ -1 := by rw [ht]; omega
  rcases tk_cases (oN n) (oD n) with h1 | ⟨_, _, _, _, h5, _⟩
  · exact absurd h1 hne
  · obtain ⟨d1, d2⟩ := oD_pos n
    obtain ⟨n1, n2⟩ := oN_le n
    exact Rt.vld_iff.2 ⟨Rt.lim_iff.2 ⟨by omega, by omega, d1, by omega⟩, h5⟩
/-- The sum of durations. -/
theorem add_of {a b : Nat} (h : a + b ≤ 1000000000) : Rt.addR (oN a) (oD a) (oN b) (oD b) = (oN (a + b), oD (a + b), 0) := by
  obtain ⟨da, _⟩ := oD_pos a
  obtain ⟨db, _⟩ := oD_pos b
  have hd : oD a * oD b ≠ 0 := by
    have := Int.mul_pos (show 0 < oD a by omega) (show 0 < oD b by omega)
    omega
  have ea := o_mul a
  have eb := o_mul b
  have ec := o_mul (a + b)
  have key : oN (a + b) * (oD a * oD b) = oD (a + b) * (oN a * oD b + oN b * oD a) := by
    have h1 : oN (a + b) * (oD a * oD b) * 1680 = oD (a + b) * (oN a * oD b + oN b * oD a) * 1680 := by
      have e1 : oN (a + b) * (oD a * oD b) * 1680 = oN (a + b) * 1680 * (oD a * oD b) := by rw [Int.mul_right_comm]
      have e2 : oD (a + b) * (oN a * oD b + oN b * oD a) * 1680 = oD (a + b) * (oN a * 1680 * oD b + oN b * 1680 * oD a) := by
        rw [Int.mul_assoc, Int.add_mul, Int.mul_right_comm (oN a), Int.mul_right_comm (oN b)]
      rw [e1, e2, ea, eb, ec, Int.natCast_add]
      generalize oD (a + b) = z
      generalize oD a = x
      generalize oD b = y
      generalize (a : Int) = p
      generalize (b : Int) = q
      rw [show p * x * y + q * y * x = (p + q) * (x * y) by rw [Int.add_mul, Int.mul_assoc, Int.mul_assoc q, Int.mul_comm y x]]
      rw [Int.mul_comm (p + q) z, Int.mul_assoc]
    exact Int.eq_of_mul_eq_mul_right (by omega) h1
  obtain ⟨r1, r2, r3⟩ := Rt.red_of hd (o_vld h) key
  unfold Rt.addR
  rw [o_vld (show a ≤ 1000000000 by omega), o_vld (show b ≤ 1000000000 by omega)]
  obtain ⟨p1, p2, p3⟩ := Rt.op_yes (oN a * oD b + oN b * oD a) (oD a * oD b)
  simp only [Bool.and_self]
  rw [p1, p2, p3, r1, r2, r3]
/-- Which of two durations is less. -/
theorem cmp_of {a b : Nat} (ha : a ≤ 1000000000) (hb : b ≤ 1000000000) : Rt.cmpR (oN a) (oD a) (oN b) (oD b) = (Rt.cmpI a b, 0) := by
  obtain ⟨da, _⟩ := oD_pos a
  obtain ⟨db, _⟩ := oD_pos b
  have hp : 0 < oD a * oD b := Int.mul_pos (by omega) (by omega)
  have e1 : oN a * oD b * 1680 = (a : Int) * (oD a * oD b) := by rw [Int.mul_right_comm, o_mul a, Int.mul_assoc]
  have e2 : oN b * oD a * 1680 = (b : Int) * (oD a * oD b) := by rw [Int.mul_right_comm, o_mul b, Int.mul_assoc, Int.mul_comm (oD b)]
  have l1 : oN a * oD b < oN b * oD a ↔ (a : Int) < (b : Int) := by
    constructor
    · intro h
      have : (a : Int) * (oD a * oD b) < (b : Int) * (oD a * oD b) := by omega
      exact Int.lt_of_mul_lt_mul_right this (by omega)
    · intro h
      have := Int.mul_lt_mul_of_pos_right h hp
      omega
  have l2 : oN b * oD a < oN a * oD b ↔ (b : Int) < (a : Int) := by
    constructor
    · intro h
      have : (b : Int) * (oD a * oD b) < (a : Int) * (oD a * oD b) := by omega
      exact Int.lt_of_mul_lt_mul_right this (by omega)
    · intro h
      have := Int.mul_lt_mul_of_pos_right h hp
      omega
  unfold Rt.cmpR
  rw [o_vld ha, o_vld hb]
  simp only [Bool.and_self]
  unfold Rt.cmpV Rt.cmpE Rt.cmpI
  simp only [if_true, l1, l2]
end Go.Proofs.Ytahdlkdiadlgeaa.Mt

/- The walk of ratio.Make. -/
namespace Go.Proofs.Ytahdlkdiadlgeaa
open Go.RowKit

/-- Are both numbers of a fraction such as Make takes? -/
def Rt.takes (n d : Int) : Bool := decide (-1000000000000000 ≤ n) && decide (n ≤ 1000000000000000) && decide (-1000000000000000 ≤ d) && decide (d ≤ 1000000000000000)
theorem Rt.takes_iff {n d : Int} : Rt.takes n d = true ↔ -1000000000000000 ≤ n ∧ n ≤ 1000000000000000 ∧ -1000000000000000 ≤ d ∧ d ≤ 1000000000000000 := by
  unfold Rt.takes; simp [and_assoc]
theorem Rt.takes_no {n d : Int} (h : Rt.takes n d = false) : n < -1000000000000000 ∨ 1000000000000000 < n ∨ d < -1000000000000000 ∨ 1000000000000000 < d := by
  have h' : ¬ (Rt.takes n d = true) := by simp [h]
  rw [Rt.takes_iff] at h'; omega

set_option maxHeartbeats 400000 in
theorem make_any (n d : Int) (w : World) :
    Calls Try.prog 55 #[.int .i64 n, .int .i64 d] w fun e w' =>
      e = .returned (.tuple #[.agg #[.int .i64 (Rt.opN (Rt.takes n d) n d), .int .i64 (Rt.opD (Rt.takes n d) n d)], .int .i64 (Rt.opE (Rt.takes n d) n d)]) ∧ Below w.heap.size w w' := by
  by_cases hv : Rt.takes n d = true
  · rw [hv]
    obtain ⟨h1, h2, h3, h4⟩ := Rt.takes_iff.1 hv
    clear hv
    go_enter Try.func55, Try.ntmps55
    go_wp2_with fail
    refine (between_yes _ _ _ _ (by omega) (by omega)).mono ?_; rintro e w1 ⟨rfl, rfl⟩
    go_wp2_with fail
    refine (between_yes _ _ _ _ (by omega) (by omega)).mono ?_; rintro e w1 ⟨rfl, rfl⟩
    go_wp2_with fail
    refine (reduce_any _ _ _ (by omega) (by omega) (by omega) (by omega)).mono ?_; rintro e w4 ⟨rfl, hb4⟩
    obtain ⟨hc4, hf4⟩ := bcell hb4
    have q0 : w4.cell? ⟨w.heap.size, 0, none⟩ = some (.int .i64 0) := by rw [hc4 _ _ (by simp)]; go_simp
    have q1 : w4.cell? ⟨w.heap.size, 1, none⟩ = some (.int .i64 0) := by rw [hc4 _ _ (by simp)]; go_simp
    go_wp2_with fail
    refine bodyPost_ret (v := .tuple #[.agg #[.int .i64 (Rt.redN n d), .int .i64 (Rt.redD n d)], .int .i64 (Rt.redE n d)]) (by simp [results, Try.results55, go_sem, q0, q1]) rfl ⟨rfl, ?_⟩
    exact ((((Below.refl _ _).alloc (Nat.le_refl _) _).trans (hb4.mono (by simp))).setCell (by simp) _).setCell (by simp) _
  · have hv' : Rt.takes n d = false := by simpa using hv
    rw [hv']
    have h := Rt.takes_no hv'
    clear hv hv'
    by_cases h1 : n < -1000000000000000 ∨ 1000000000000000 < n
    · have H := Lib.hid h1
      clear h h1
      go_enter Try.func55, Try.ntmps55
      go_wp2_with fail
      refine (between_no _ _ _ _ H.out).mono ?_; rintro e w1 ⟨rfl, rfl⟩
      go_wp2_with fail
      refine bodyPost_ret (v := .tuple #[.agg #[.int .i64 0, .int .i64 0], .int .i64 1]) (by simp [results, Try.results55, go_sem]) rfl ⟨rfl, ?_⟩
      go_grown
    · have H := Lib.hid (show d < -1000000000000000 ∨ 1000000000000000 < d by omega)
      have h2 : -1000000000000000 ≤ n ∧ n ≤ 1000000000000000 := by omega
      obtain ⟨h3, h4⟩ := h2
      clear h h1
      go_enter Try.func55, Try.ntmps55
      go_wp2_with fail
      refine (between_yes _ _ _ _ (by omega) (by omega)).mono ?_; rintro e w1 ⟨rfl, rfl⟩
      go_wp2_with fail
      refine (between_no _ _ _ _ H.out).mono ?_; rintro e w1 ⟨rfl, rfl⟩
      go_wp2_with fail
      refine bodyPost_ret (v := .tuple #[.agg #[.int .i64 0, .int .i64 0], .int .i64 1]) (by simp [results, Try.results55, go_sem]) rfl ⟨rfl, ?_⟩
      go_grown

def Rt.makeR (n d : Int) : Int × Int × Int := (Rt.opN (Rt.takes n d) n d, Rt.opD (Rt.takes n d) n d, Rt.opE (Rt.takes n d) n d)
theorem make_is (n d N D E : Int) (h : Rt.makeR n d = (N, D, E)) (w : World) :
    Calls Try.prog 55 #[.int .i64 n, .int .i64 d] w fun e w' =>
      e = .returned (.tuple #[.agg #[.int .i64 N, .int .i64 D], .int .i64 E]) ∧ Below w.heap.size w w' := by
  obtain ⟨rfl, rfl, rfl⟩ : Rt.opN (Rt.takes n d) n d = N ∧ Rt.opD (Rt.takes n d) n d = D ∧ Rt.opE (Rt.takes n d) n d = E := by simpa [Rt.makeR] using h
  exact make_any n d w

end Go.Proofs.Ytahdlkdiadlgeaa

/- The walk of ratio.Mul. -/
namespace Go.Proofs.Ytahdlkdiadlgeaa
open Go.RowKit

set_option maxHeartbeats 400000 in
theorem mul_op (a b c d : Int) (w : World) (h1 : -1000000000 ≤ a) (h2 : a ≤ 1000000000) (h3 : 1 ≤ b) (h4 : b ≤ 1000000) (h5 : -1000000000 ≤ c) (h6 : c ≤ 1000000000) (h7 : 1 ≤ d) (h8 : d ≤ 1000000) :
    Calls Try.prog 37 #[.agg #[.int .i64 a, .int .i64 b], .agg #[.int .i64 c, .int .i64 d]] w fun e w' => e = .returned (.tuple #[.int .i64 (a * c), .int .i64 (b * d)]) ∧ Below w.heap.size w w' := by
  obtain ⟨⟨p1, p2⟩, ⟨p3, p4⟩, ⟨p5, p6⟩, ⟨p7, p8⟩, ⟨p9, p10⟩⟩ := muls_in a b c d h1 h2 h3 h4 h5 h6 h7 h8
  go_enter Try.func37, Try.ntmps37
  go_wp2_with fail
  go_quiet (fail)
  go_wp2_with fail
  go_ret2
  exact ⟨rfl, below_drewN (by go_grown) _⟩

set_option maxHeartbeats 400000 in
theorem mul_combine (a b c d : Int) (w : World) :
    Calls Try.prog 30 #[.agg #[.int .i64 a, .int .i64 b], .agg #[.int .i64 c, .int .i64 d], .func (.func 37) #[] #[]] w fun e w' =>
      e = .returned (.tuple #[.agg #[.int .i64 (Rt.opN (Rt.vld a b && Rt.vld c d) (a * c) (b * d)), .int .i64 (Rt.opD (Rt.vld a b && Rt.vld c d) (a * c) (b * d))], .int .i64 (Rt.opE (Rt.vld a b && Rt.vld c d) (a * c) (b * d))]) ∧ Below w.heap.size w w' := by
  by_cases hv1 : Rt.vld a b = true
  · by_cases hv2 : Rt.vld c d = true
    · rw [hv1, hv2]
      obtain ⟨h1, h2, h3, h4⟩ := Rt.vld_lim hv1
      obtain ⟨h5, h6, h7, h8⟩ := Rt.vld_lim hv2
      have HM := Lib.hid (muls_in a b c d h1 h2 h3 h4 h5 h6 h7 h8)
      have HV1 := Lib.hid hv1
      have HV2 := Lib.hid hv2
      clear hv1 hv2
      go_enter Try.func30, Try.ntmps30
      go_wp2_with fail
      refine (valid_is _ _ _ HV1.out _).mono ?_; rintro e w1 ⟨rfl, hb1⟩
      obtain ⟨hc1, hf1⟩ := bcell hb1
      have hz1 : w.heap.size + 1 + 1 < w1.heap.size := by have := hb1.size; simp at this; omega
      go_wp2_with fail
      refine (valid_is _ _ _ HV2.out _).mono ?_; rintro e w2 ⟨rfl, hb2'⟩
      have hb2 := hb1.trans (hb2'.mono hb1.size); clear hc1 hf1 hb1 hb2'
      obtain ⟨hc2, hf2⟩ := bcell hb2
      have hz2 : w.heap.size + 1 + 1 < w2.heap.size := by have := hb2.size; simp at this; omega
      go_wp2_with fail
      refine (mul_op a b c d _ h1 h2 h3 h4 h5 h6 h7 h8).mono ?_; rintro e w3 ⟨rfl, hb3'⟩
      have hb3 := hb2.trans (hb3'.mono hb2.size); clear hc2 hf2 hb2 hb3'
      obtain ⟨hc3, hf3⟩ := bcell hb3
      have hz3 : w.heap.size + 1 + 1 < w3.heap.size := by have := hb3.size; simp at this; omega
      go_wp2_with fail
      refine (reduce_any _ _ _ (by have := HM.out; omega) (by have := HM.out; omega) (by have := HM.out; omega) (by have := HM.out; omega)).mono ?_; rintro e w4 ⟨rfl, hb4'⟩
      have hb4 := hb3.trans (hb4'.mono hb3.size); clear hc3 hf3 hb3 hb4'
      obtain ⟨hc4, hf4⟩ := bcell hb4
      have hz4 : w.heap.size + 1 + 1 < w4.heap.size := by have := hb4.size; simp at this; omega
      have q0 : w4.cell? ⟨w.heap.size + 1 + 1, 0, none⟩ = some (.int .i64 0) := by rw [hc4 _ _ (by simp)]; go_simp
      have q1 : w4.cell? ⟨w.heap.size + 1 + 1, 1, none⟩ = some (.int .i64 0) := by rw [hc4 _ _ (by simp)]; go_simp
      go_wp2_with fail
      refine bodyPost_ret (v := .tuple #[.agg #[.int .i64 (Rt.redN (a * c) (b * d)), .int .i64 (Rt.redD (a * c) (b * d))], .int .i64 (Rt.redE (a * c) (b * d))]) (by simp [results, Try.results30, go_sem, q0, q1]) rfl ⟨rfl, ?_⟩
      exact ((((((Below.refl _ _).alloc (Nat.le_refl _) _).alloc (by simp) _).alloc (by simp; omega) _).trans (hb4.mono (by simp; omega))).setCell (by simp; omega) _).setCell (by simp; omega) _
    · have hv2' : Rt.vld c d = false := by simpa using hv2
      rw [hv1, hv2']
      have HV1 := Lib.hid hv1
      have HV2 := Lib.hid hv2'
      clear hv1 hv2 hv2'
      go_enter Try.func30, Try.ntmps30
      go_wp2_with fail
      refine (valid_is _ _ _ HV1.out _).mono ?_; rintro e w1 ⟨rfl, hb1⟩
      obtain ⟨hc1, hf1⟩ := bcell hb1
      have hz1 : w.heap.size + 1 + 1 < w1.heap.size := by have := hb1.size; simp at this; omega
      go_wp2_with fail
      refine (valid_is _ _ _ HV2.out _).mono ?_; rintro e w2 ⟨rfl, hb2'⟩
      have hb4 := hb1.trans (hb2'.mono hb1.size); clear hc1 hf1 hb1 hb2'
      obtain ⟨hc4, hf4⟩ := bcell hb4
      have hz2 : w.heap.size + 1 + 1 < w2.heap.size := by have := hb4.size; simp at this; omega
      have q0 : w2.cell? ⟨w.heap.size + 1 + 1, 0, none⟩ = some (.int .i64 0) := by rw [hc4 _ _ (by simp)]; go_simp
      have q1 : w2.cell? ⟨w.heap.size + 1 + 1, 1, none⟩ = some (.int .i64 0) := by rw [hc4 _ _ (by simp)]; go_simp
      go_wp2_with fail
      refine bodyPost_ret (v := .tuple #[.agg #[.int .i64 0, .int .i64 0], .int .i64 1]) (by simp [results, Try.results30, go_sem, q0, q1]) rfl ⟨rfl, ?_⟩
      exact ((((((Below.refl _ _).alloc (Nat.le_refl _) _).alloc (by simp) _).alloc (by simp; omega) _).trans (hb4.mono (by simp; omega))).setCell (by simp; omega) _).setCell (by simp; omega) _
  · have hv1' : Rt.vld a b = false := by simpa using hv1
    rw [hv1']
    have HV1 := Lib.hid hv1'
    clear hv1 hv1'
    go_enter Try.func30, Try.ntmps30
    go_wp2_with fail
    refine (valid_is _ _ _ HV1.out _).mono ?_; rintro e w2 ⟨rfl, hb4⟩
    obtain ⟨hc4, hf4⟩ := bcell hb4
    have hz2 : w.heap.size + 1 + 1 < w2.heap.size := by have := hb4.size; simp at this; omega
    have q0 : w2.cell? ⟨w.heap.size + 1 + 1, 0, none⟩ = some (.int .i64 0) := by rw [hc4 _ _ (by simp)]; go_simp
    have q1 : w2.cell? ⟨w.heap.size + 1 + 1, 1, none⟩ = some (.int .i64 0) := by rw [hc4 _ _ (by simp)]; go_simp
    go_wp2_with fail
    refine bodyPost_ret (v := .tuple #[.agg #[.int .i64 0, .int .i64 0], .int .i64 1]) (by simp [results, Try.results30, go_sem, q0, q1]) rfl ⟨rfl, ?_⟩
    exact ((((((Below.refl _ _).alloc (Nat.le_refl _) _).alloc (by simp) _).alloc (by simp; omega) _).trans (hb4.mono (by simp; omega))).setCell (by simp; omega) _).setCell (by simp; omega) _

set_option maxHeartbeats 400000 in
/-- 'Mul' at whatever numbers. -/
theorem mul_any (a b c d : Int) (w : World) :
    Calls Try.prog 16 #[.agg #[.int .i64 a, .int .i64 b], .agg #[.int .i64 c, .int .i64 d]] w fun e w' =>
      e = .returned (.tuple #[.agg #[.int .i64 (Rt.opN (Rt.vld a b && Rt.vld c d) (a * c) (b * d)), .int .i64 (Rt.opD (Rt.vld a b && Rt.vld c d) (a * c) (b * d))], .int .i64 (Rt.opE (Rt.vld a b && Rt.vld c d) (a * c) (b * d))]) ∧ Below w.heap.size w w' := by
  go_enter Try.func16, Try.ntmps16
  go_wp2_with fail
  refine (mul_combine a b c d _).mono ?_; rintro e w2 ⟨rfl, hb4⟩
  obtain ⟨hc4, hf4⟩ := bcell hb4
  have hz2 : w.heap.size + 1 + 1 < w2.heap.size := by have := hb4.size; simp at this; omega
  have q0 : w2.cell? ⟨w.heap.size + 1 + 1, 0, none⟩ = some (.int .i64 0) := by rw [hc4 _ _ (by simp)]; go_simp
  have q1 : w2.cell? ⟨w.heap.size + 1 + 1, 1, none⟩ = some (.int .i64 0) := by rw [hc4 _ _ (by simp)]; go_simp
  go_wp2_with fail
  refine bodyPost_ret (v := .tuple #[.agg #[.int .i64 (Rt.opN (Rt.vld a b && Rt.vld c d) (a * c) (b * d)), .int .i64 (Rt.opD (Rt.vld a b && Rt.vld c d) (a * c) (b * d))], .int .i64 (Rt.opE (Rt.vld a b && Rt.vld c d) (a * c) (b * d))]) (by simp [results, Try.results16, go_sem, q0, q1]) rfl ⟨rfl, ?_⟩
  exact ((((((Below.refl _ _).alloc (Nat.le_refl _) _).alloc (by simp) _).alloc (by simp; omega) _).trans (hb4.mono (by simp; omega))).setCell (by simp; omega) _).setCell (by simp; omega) _

/-- The numbers and the error of 'Mul'. -/
def Rt.mulR (a b c d : Int) : Int × Int × Int := (Rt.opN (Rt.vld a b && Rt.vld c d) (a * c) (b * d), Rt.opD (Rt.vld a b && Rt.vld c d) (a * c) (b * d), Rt.opE (Rt.vld a b && Rt.vld c d) (a * c) (b * d))
theorem mul_is (a b c d N D E : Int) (h : Rt.mulR a b c d = (N, D, E)) (w : World) :
    Calls Try.prog 16 #[.agg #[.int .i64 a, .int .i64 b], .agg #[.int .i64 c, .int .i64 d]] w fun e w' =>
      e = .returned (.tuple #[.agg #[.int .i64 N, .int .i64 D], .int .i64 E]) ∧ Below w.heap.size w w' := by
  obtain ⟨rfl, rfl, rfl⟩ : Rt.opN (Rt.vld a b && Rt.vld c d) (a * c) (b * d) = N ∧ Rt.opD (Rt.vld a b && Rt.vld c d) (a * c) (b * d) = D ∧ Rt.opE (Rt.vld a b && Rt.vld c d) (a * c) (b * d) = E := by
    simpa [Rt.mulR] using h
  exact mul_any a b c d w

end Go.Proofs.Ytahdlkdiadlgeaa

/- The walks of the reference's Make, Add, Sub, Mul, Div, Compare and Floor. -/
namespace Go.Proofs.Ytahdlkdiadlgeaa
open Go.RowKit

end Go.Proofs.Ytahdlkdiadlgeaa

/- The walk of ratio.Sub. -/
namespace Go.Proofs.Ytahdlkdiadlgeaa
open Go.RowKit

set_option maxHeartbeats 400000 in
theorem sub_op (a b c d : Int) (w : World) (h1 : -1000000000 ≤ a) (h2 : a ≤ 1000000000) (h3 : 1 ≤ b) (h4 : b ≤ 1000000) (h5 : -1000000000 ≤ c) (h6 : c ≤ 1000000000) (h7 : 1 ≤ d) (h8 : d ≤ 1000000) :
    Calls Try.prog 36 #[.agg #[.int .i64 a, .int .i64 b], .agg #[.int .i64 c, .int .i64 d]] w fun e w' => e = .returned (.tuple #[.int .i64 (a * d - c * b), .int .i64 (b * d)]) ∧ Below w.heap.size w w' := by
  obtain ⟨⟨p1, p2⟩, ⟨p3, p4⟩, ⟨p5, p6⟩, ⟨p7, p8⟩, ⟨p9, p10⟩⟩ := muls_in a b c d h1 h2 h3 h4 h5 h6 h7 h8
  go_enter Try.func36, Try.ntmps36
  go_wp2_with fail
  go_quiet (fail)
  go_wp2_with fail
  go_ret2
  exact ⟨rfl, below_drewN (by go_grown) _⟩

set_option maxHeartbeats 400000 in
theorem sub_combine (a b c d : Int) (w : World) :
    Calls Try.prog 30 #[.agg #[.int .i64 a, .int .i64 b], .agg #[.int .i64 c, .int .i64 d], .func (.func 36) #[] #[]] w fun e w' =>
      e = .returned (.tuple #[.agg #[.int .i64 (Rt.opN (Rt.vld a b && Rt.vld c d) (a * d - c * b) (b * d)), .int .i64 (Rt.opD (Rt.vld a b && Rt.vld c d) (a * d - c * b) (b * d))], .int .i64 (Rt.opE (Rt.vld a b && Rt.vld c d) (a * d - c * b) (b * d))]) ∧ Below w.heap.size w w' := by
  by_cases hv1 : Rt.vld a b = true
  · by_cases hv2 : Rt.vld c d = true
    · rw [hv1, hv2]
      obtain ⟨h1, h2, h3, h4⟩ := Rt.vld_lim hv1
      obtain ⟨h5, h6, h7, h8⟩ := Rt.vld_lim hv2
      have HM := Lib.hid (muls_in a b c d h1 h2 h3 h4 h5 h6 h7 h8)
      have HV1 := Lib.hid hv1
      have HV2 := Lib.hid hv2
      clear hv1 hv2
      go_enter Try.func30, Try.ntmps30
      go_wp2_with fail
      refine (valid_is _ _ _ HV1.out _).mono ?_; rintro e w1 ⟨rfl, hb1⟩
      obtain ⟨hc1, hf1⟩ := bcell hb1
      have hz1 : w.heap.size + 1 + 1 < w1.heap.size := by have := hb1.size; simp at this; omega
      go_wp2_with fail
      refine (valid_is _ _ _ HV2.out _).mono ?_; rintro e w2 ⟨rfl, hb2'⟩
      have hb2 := hb1.trans (hb2'.mono hb1.size); clear hc1 hf1 hb1 hb2'
      obtain ⟨hc2, hf2⟩ := bcell hb2
      have hz2 : w.heap.size + 1 + 1 < w2.heap.size := by have := hb2.size; simp at this; omega
      go_wp2_with fail
      refine (sub_op a b c d _ h1 h2 h3 h4 h5 h6 h7 h8).mono ?_; rintro e w3 ⟨rfl, hb3'⟩
      have hb3 := hb2.trans (hb3'.mono hb2.size); clear hc2 hf2 hb2 hb3'
      obtain ⟨hc3, hf3⟩ := bcell hb3
      have hz3 : w.heap.size + 1 + 1 < w3.heap.size := by have := hb3.size; simp at this; omega
      go_wp2_with fail
      refine (reduce_any _ _ _ (by have := HM.out; omega) (by have := HM.out; omega) (by have := HM.out; omega) (by have := HM.out; omega)).mono ?_; rintro e w4 ⟨rfl, hb4'⟩
      have hb4 := hb3.trans (hb4'.mono hb3.size); clear hc3 hf3 hb3 hb4'
      obtain ⟨hc4, hf4⟩ := bcell hb4
      have hz4 : w.heap.size + 1 + 1 < w4.heap.size := by have := hb4.size; simp at this; omega
      have q0 : w4.cell? ⟨w.heap.size + 1 + 1, 0, none⟩ = some (.int .i64 0) := by rw [hc4 _ _ (by simp)]; go_simp
      have q1 : w4.cell? ⟨w.heap.size + 1 + 1, 1, none⟩ = some (.int .i64 0) := by rw [hc4 _ _ (by simp)]; go_simp
      go_wp2_with fail
      refine bodyPost_ret (v := .tuple #[.agg #[.int .i64 (Rt.redN (a * d - c * b) (b * d)), .int .i64 (Rt.redD (a * d - c * b) (b * d))], .int .i64 (Rt.redE (a * d - c * b) (b * d))]) (by simp [results, Try.results30, go_sem, q0, q1]) rfl ⟨rfl, ?_⟩
      exact ((((((Below.refl _ _).alloc (Nat.le_refl _) _).alloc (by simp) _).alloc (by simp; omega) _).trans (hb4.mono (by simp; omega))).setCell (by simp; omega) _).setCell (by simp; omega) _
    · have hv2' : Rt.vld c d = false := by simpa using hv2
      rw [hv1, hv2']
      have HV1 := Lib.hid hv1
      have HV2 := Lib.hid hv2'
      clear hv1 hv2 hv2'
      go_enter Try.func30, Try.ntmps30
      go_wp2_with fail
      refine (valid_is _ _ _ HV1.out _).mono ?_; rintro e w1 ⟨rfl, hb1⟩
      obtain ⟨hc1, hf1⟩ := bcell hb1
      have hz1 : w.heap.size + 1 + 1 < w1.heap.size := by have := hb1.size; simp at this; omega
      go_wp2_with fail
      refine (valid_is _ _ _ HV2.out _).mono ?_; rintro e w2 ⟨rfl, hb2'⟩
      have hb4 := hb1.trans (hb2'.mono hb1.size); clear hc1 hf1 hb1 hb2'
      obtain ⟨hc4, hf4⟩ := bcell hb4
      have hz2 : w.heap.size + 1 + 1 < w2.heap.size := by have := hb4.size; simp at this; omega
      have q0 : w2.cell? ⟨w.heap.size + 1 + 1, 0, none⟩ = some (.int .i64 0) := by rw [hc4 _ _ (by simp)]; go_simp
      have q1 : w2.cell? ⟨w.heap.size + 1 + 1, 1, none⟩ = some (.int .i64 0) := by rw [hc4 _ _ (by simp)]; go_simp
      go_wp2_with fail
      refine bodyPost_ret (v := .tuple #[.agg #[.int .i64 0, .int .i64 0], .int .i64 1]) (by simp [results, Try.results30, go_sem, q0, q1]) rfl ⟨rfl, ?_⟩
      exact ((((((Below.refl _ _).alloc (Nat.le_refl _) _).alloc (by simp) _).alloc (by simp; omega) _).trans (hb4.mono (by simp; omega))).setCell (by simp; omega) _).setCell (by simp; omega) _
  · have hv1' : Rt.vld a b = false := by simpa using hv1
    rw [hv1']
    have HV1 := Lib.hid hv1'
    clear hv1 hv1'
    go_enter Try.func30, Try.ntmps30
    go_wp2_with fail
    refine (valid_is _ _ _ HV1.out _).mono ?_; rintro e w2 ⟨rfl, hb4⟩
    obtain ⟨hc4, hf4⟩ := bcell hb4
    have hz2 : w.heap.size + 1 + 1 < w2.heap.size := by have := hb4.size; simp at this; omega
    have q0 : w2.cell? ⟨w.heap.size + 1 + 1, 0, none⟩ = some (.int .i64 0) := by rw [hc4 _ _ (by simp)]; go_simp
    have q1 : w2.cell? ⟨w.heap.size + 1 + 1, 1, none⟩ = some (.int .i64 0) := by rw [hc4 _ _ (by simp)]; go_simp
    go_wp2_with fail
    refine bodyPost_ret (v := .tuple #[.agg #[.int .i64 0, .int .i64 0], .int .i64 1]) (by simp [results, Try.results30, go_sem, q0, q1]) rfl ⟨rfl, ?_⟩
    exact ((((((Below.refl _ _).alloc (Nat.le_refl _) _).alloc (by simp) _).alloc (by simp; omega) _).trans (hb4.mono (by simp; omega))).setCell (by simp; omega) _).setCell (by simp; omega) _

set_option maxHeartbeats 400000 in
/-- 'Sub' at whatever numbers. -/
theorem sub_any (a b c d : Int) (w : World) :
    Calls Try.prog 15 #[.agg #[.int .i64 a, .int .i64 b], .agg #[.int .i64 c, .int .i64 d]] w fun e w' =>
      e = .returned (.tuple #[.agg #[.int .i64 (Rt.opN (Rt.vld a b && Rt.vld c d) (a * d - c * b) (b * d)), .int .i64 (Rt.opD (Rt.vld a b && Rt.vld c d) (a * d - c * b) (b * d))], .int .i64 (Rt.opE (Rt.vld a b && Rt.vld c d) (a * d - c * b) (b * d))]) ∧ Below w.heap.size w w' := by
  go_enter Try.func15, Try.ntmps15
  go_wp2_with fail
  refine (sub_combine a b c d _).mono ?_; rintro e w2 ⟨rfl, hb4⟩
  obtain ⟨hc4, hf4⟩ := bcell hb4
  have hz2 : w.heap.size + 1 + 1 < w2.heap.size := by have := hb4.size; simp at this; omega
  have q0 : w2.cell? ⟨w.heap.size + 1 + 1, 0, none⟩ = some (.int .i64 0) := by rw [hc4 _ _ (by simp)]; go_simp
  have q1 : w2.cell? ⟨w.heap.size + 1 + 1, 1, none⟩ = some (.int .i64 0) := by rw [hc4 _ _ (by simp)]; go_simp
  go_wp2_with fail
  refine bodyPost_ret (v := .tuple #[.agg #[.int .i64 (Rt.opN (Rt.vld a b && Rt.vld c d) (a * d - c * b) (b * d)), .int .i64 (Rt.opD (Rt.vld a b && Rt.vld c d) (a * d - c * b) (b * d))], .int .i64 (Rt.opE (Rt.vld a b && Rt.vld c d) (a * d - c * b) (b * d))]) (by simp [results, Try.results15, go_sem, q0, q1]) rfl ⟨rfl, ?_⟩
  exact ((((((Below.refl _ _).alloc (Nat.le_refl _) _).alloc (by simp) _).alloc (by simp; omega) _).trans (hb4.mono (by simp; omega))).setCell (by simp; omega) _).setCell (by simp; omega) _

/-- The numbers and the error of 'Sub'. -/
def Rt.subR (a b c d : Int) : Int × Int × Int := (Rt.opN (Rt.vld a b && Rt.vld c d) (a * d - c * b) (b * d), Rt.opD (Rt.vld a b && Rt.vld c d) (a * d - c * b) (b * d), Rt.opE (Rt.vld a b && Rt.vld c d) (a * d - c * b) (b * d))
theorem sub_is (a b c d N D E : Int) (h : Rt.subR a b c d = (N, D, E)) (w : World) :
    Calls Try.prog 15 #[.agg #[.int .i64 a, .int .i64 b], .agg #[.int .i64 c, .int .i64 d]] w fun e w' =>
      e = .returned (.tuple #[.agg #[.int .i64 N, .int .i64 D], .int .i64 E]) ∧ Below w.heap.size w w' := by
  obtain ⟨rfl, rfl, rfl⟩ : Rt.opN (Rt.vld a b && Rt.vld c d) (a * d - c * b) (b * d) = N ∧ Rt.opD (Rt.vld a b && Rt.vld c d) (a * d - c * b) (b * d) = D ∧ Rt.opE (Rt.vld a b && Rt.vld c d) (a * d - c * b) (b * d) = E := by
    simpa [Rt.subR] using h
  exact sub_any a b c d w

end Go.Proofs.Ytahdlkdiadlgeaa

/- Slices of bars. -/
namespace Go.Proofs.Ytahdlkdiadlgeaa
open Go.RowKit

def atB (l : List Mt.B) (i : Nat) : Mt.B := l[i]?.getD (0, 0, 0, 0)
theorem atB_eq {l : List Mt.B} {i : Nat} (h : i < l.length) : atB l i = l[i] := by unfold atB; rw [List.getElem?_eq_getElem h]; rfl
/-- At this address lie these bars (nothing is said where there are none). -/
def SlB (w : World) (A : Option Addr) (l : List Mt.B) : Prop :=
  0 < l.length → ∃ b off, A = some ⟨b, off, none⟩ ∧ b < w.heap.size ∧ ∀ k, k < l.length → w.cell? ⟨b, off + k * 4, none⟩ = some (.int .i64 (atB l k).1) ∧
    w.cell? ⟨b, off + k * 4 + 1, none⟩ = some (.int .i64 (atB l k).2.1) ∧ w.cell? ⟨b, off + k * 4 + 2, none⟩ = some (.int .i64 (atB l k).2.2.1) ∧ w.cell? ⟨b, off + k * 4 + 3, none⟩ = some (.int .i64 (atB l k).2.2.2)
theorem SlB.below {w w' : World} {A : Option Addr} {l : List Mt.B} (h : SlB w A l) (hb : Below w.heap.size w w') : SlB w' A l := fun h0 => by
  obtain ⟨b, off, e, hlt, hc⟩ := h h0
  refine ⟨b, off, e, Nat.lt_of_lt_of_le hlt hb.size, fun k hk => ?_⟩
  obtain ⟨c0, c1, c2, c3⟩ := hc k hk
  exact ⟨(hb.cell (p := ⟨b, off + k * 4, none⟩) hlt).trans c0, (hb.cell (p := ⟨b, off + k * 4 + 1, none⟩) hlt).trans c1, (hb.cell (p := ⟨b, off + k * 4 + 2, none⟩) hlt).trans c2, (hb.cell (p := ⟨b, off + k * 4 + 3, none⟩) hlt).trans c3⟩
theorem SlB.alloc {w : World} {A : Option Addr} {l : List Mt.B} (h : SlB w A l) (o : Obj) : SlB (w.alloc o) A l := h.below ((Below.refl _ _).alloc (Nat.le_refl _) _)
theorem SlB.nil (w : World) (A : Option Addr) : SlB w A [] := fun h => by simp at h
theorem baddr_off (b o j : Nat) : (⟨b, o, none⟩ : Addr).add j = ⟨b, o + j, none⟩ := by unfold Addr.add; split <;> simp_all
theorem SlB.take {w : World} {A : Option Addr} {l : List Mt.B} (h : SlB w A l) (j : Nat) : SlB w A (l.take j) := fun h0 => by
  rw [List.length_take] at h0
  obtain ⟨b, off, rfl, hb, hc⟩ := h (by omega)
  refine ⟨b, off, rfl, hb, fun i hi => ?_⟩
  rw [List.length_take] at hi
  have e : atB (l.take j) i = atB l i := by unfold atB; rw [List.getElem?_take, if_pos (by omega)]
  rw [e]
  exact hc i (by omega)
theorem SlB.drop {w : World} {A : Option Addr} {l : List Mt.B} (h : SlB w A l) (j : Nat) : SlB w (Option.map (fun x => x.add (j * 4)) A) (l.drop j) := fun h0 => by
  rw [List.length_drop] at h0
  obtain ⟨b, off, rfl, hb, hc⟩ := h (by omega)
  refine ⟨b, off + j * 4, by rw [Option.map_some, baddr_off], hb, fun i hi => ?_⟩
  rw [List.length_drop] at hi
  have e : atB (l.drop j) i = atB l (j + i) := by unfold atB; rw [List.getElem?_drop]
  rw [e, show off + j * 4 + i * 4 = off + (j + i) * 4 by omega]
  exact hc (j + i) (by omega)
end Go.Proofs.Ytahdlkdiadlgeaa
