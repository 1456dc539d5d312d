import Derived.Test.YtahdlkdiadlgeaaGAB
import Derived.RegionTactic
import Derived.Handy
import Derived.Laws.EntriesVeiled
import Derived.Deep.DeepCutAuto
/- The walks of the reference's reduce. -/
namespace Go.Proofs.Ytahdlkdiadlgeaa
open Go.RowKit

theorem q_pos (n d : Int) (h : 0 < d) : Rt.qN n d = (n.tdiv (Int.gcd n d : Nat)) ∧ Rt.qD n d = (d.tdiv (Int.gcd n d : Nat)) := by
  have h0 : d ≠ 0 := by omega
  have a := Rt.redG_dvd_n n d h0
  have b := Rt.redG_dvd_d n d h0
  have e1 : Rt.qN n d = n.tdiv (Rt.redG n d) := (Int.tdiv_eq_ediv_of_dvd a).symm
  have e2 : Rt.qD n d = d.tdiv (Rt.redG n d) := (Int.tdiv_eq_ediv_of_dvd b).symm
  rw [e1, e2]
  unfold Rt.redG
  rw [Int.sign_eq_one_of_pos h]
  simp
theorem lim_q_pos (n d : Int) (h : 0 < d) : (1000000 < (d.tdiv (Int.gcd n d : Nat)) → Rt.lim (Rt.qN n d) (Rt.qD n d) = false) ∧
    (1000000000 < ((n.tdiv (Int.gcd n d : Nat)).natAbs : Int) → Rt.lim (Rt.qN n d) (Rt.qD n d) = false) ∧
    (¬ 1000000 < (d.tdiv (Int.gcd n d : Nat)) → ¬ 1000000000 < ((n.tdiv (Int.gcd n d : Nat)).natAbs : Int) → Rt.lim (Rt.qN n d) (Rt.qD n d) = true) := by
  have h0 : d ≠ 0 := by omega
  have hp := Rt.qD_pos (n := n) h0
  obtain ⟨e1, e2⟩ := q_pos n d h
  rw [← e1, ← e2]
  refine ⟨fun h1 => ?_, fun h1 => ?_, fun h1 h2 => Rt.lim_iff.2 (by omega)⟩
  · refine Bool.eq_false_iff.2 fun h2 => ?_
    have := Rt.lim_iff.1 h2; omega
  · refine Bool.eq_false_iff.2 fun h2 => ?_
    have := Rt.lim_iff.1 h2; omega

theorem q_neg (n d : Int) (h : d < 0) : Rt.qN n d = (-n.tdiv (Int.gcd n d : Nat)) ∧ Rt.qD n d = (-d.tdiv (Int.gcd n d : Nat)) := by
  have h0 : d ≠ 0 := by omega
  have a := Rt.redG_dvd_n n d h0
  have b := Rt.redG_dvd_d n d h0
  have e1 : Rt.qN n d = n.tdiv (Rt.redG n d) := (Int.tdiv_eq_ediv_of_dvd a).symm
  have e2 : Rt.qD n d = d.tdiv (Rt.redG n d) := (Int.tdiv_eq_ediv_of_dvd b).symm
  rw [e1, e2]
  unfold Rt.redG
  rw [Int.sign_eq_neg_one_of_neg h]
  simp
theorem lim_q_neg (n d : Int) (h : d < 0) : (1000000 < (-d.tdiv (Int.gcd n d : Nat)) → Rt.lim (Rt.qN n d) (Rt.qD n d) = false) ∧
    (1000000000 < ((-n.tdiv (Int.gcd n d : Nat)).natAbs : Int) → Rt.lim (Rt.qN n d) (Rt.qD n d) = false) ∧
    (¬ 1000000 < (-d.tdiv (Int.gcd n d : Nat)) → ¬ 1000000000 < ((-n.tdiv (Int.gcd n d : Nat)).natAbs : Int) → Rt.lim (Rt.qN n d) (Rt.qD n d) = true) := by
  have h0 : d ≠ 0 := by omega
  have hp := Rt.qD_pos (n := n) h0
  obtain ⟨e1, e2⟩ := q_neg n d h
  rw [← e1, ← e2]
  refine ⟨fun h1 => ?_, fun h1 => ?_, fun h1 h2 => Rt.lim_iff.2 (by omega)⟩
  · refine Bool.eq_false_iff.2 fun h2 => ?_
    have := Rt.lim_iff.1 h2; omega
  · refine Bool.eq_false_iff.2 fun h2 => ?_
    have := Rt.lim_iff.1 h2; omega

end Go.Proofs.Ytahdlkdiadlgeaa

/- The walks of 'within' and 'reduce' of package ratio. -/
namespace Go.Proofs.Ytahdlkdiadlgeaa
open Go.RowKit

set_option maxHeartbeats 400000 in
theorem within_yes (n d : Int) (w : World) (h : Rt.lim n d = true) :
    Calls Try.prog 71 #[.agg #[.int .i64 n, .int .i64 d]] w fun e w' => e = .returned (.bool true) ∧ Below w.heap.size w w' := by
  obtain ⟨h1, h2, h3, h4⟩ := Rt.lim_iff.1 h
  clear h
  go_enter Try.func71, Try.ntmps71
  go_wp2_with (go_at_call 74; refine (between_yes _ _ _ _ (by omega) (by omega)).mono ?_; rintro e w' ⟨rfl, rfl⟩)
  go_ret
  exact ⟨rfl, (Below.refl _ _).alloc (Nat.le_refl _) _⟩
set_option maxHeartbeats 400000 in
theorem within_no (n d : Int) (w : World) (h : Rt.lim n d = false) :
    Calls Try.prog 71 #[.agg #[.int .i64 n, .int .i64 d]] w fun e w' => e = .returned (.bool false) ∧ Below w.heap.size w w' := by
  have h' := Rt.lim_no h
  clear h
  by_cases h1 : -1000000000 ≤ n ∧ n ≤ 1000000000
  · obtain ⟨h1, h2⟩ := h1
    have h3 : d < 1 ∨ 1000000 < d := by omega
    have H := Lib.hid h3
    clear h3 h'
    go_enter Try.func71, Try.ntmps71
    go_wp2_with fail
    refine (between_yes _ _ _ _ (by omega) (by omega)).mono ?_; rintro e w' ⟨rfl, rfl⟩
    go_wp2_with fail
    refine (between_no _ _ _ _ H.out).mono ?_; rintro e w' ⟨rfl, rfl⟩
    go_wp2_with fail
    go_ret
    exact ⟨rfl, (Below.refl _ _).alloc (Nat.le_refl _) _⟩
  · have h3 : n < -1000000000 ∨ 1000000000 < n := by omega
    have H := Lib.hid h3
    clear h3 h' h1
    go_enter Try.func71, Try.ntmps71
    go_wp2_with fail
    refine (between_no _ _ _ _ H.out).mono ?_; rintro e w' ⟨rfl, rfl⟩
    go_wp2_with fail
    go_ret
    exact ⟨rfl, (Below.refl _ _).alloc (Nat.le_refl _) _⟩

set_option maxHeartbeats 400000 in
theorem reduce_zero (n : Int) (w : World) :
    Calls Try.prog 56 #[.int .i64 n, .int .i64 0] w fun e w' => e = .returned (.tuple #[.agg #[.int .i64 0, .int .i64 0], .int .i64 1]) ∧ Below w.heap.size w w' := by
  go_enter Try.func56, Try.ntmps56
  go_wp2_with fail
  refine bodyPost_ret (v := .tuple #[.agg #[.int .i64 0, .int .i64 0], .int .i64 1]) (by simp [results, Try.results56, go_sem]) rfl ⟨rfl, ?_⟩
  go_grown

theorem tdiv_in (n g : Int) (hn : -9223372036854775807 ≤ n) (hn' : n ≤ 9223372036854775807) : -9223372036854775807 ≤ n.tdiv g ∧ n.tdiv g ≤ 9223372036854775807 := by
  have h := Int.natAbs_tdiv_le_natAbs n g
  omega

theorem flip_yes {t d G : Int} (hg : t = G ∨ t = -G) (h1 : 0 < d → 0 < G) (h2 : d < 0 → G < 0) (hd : d < 0 ∨ 0 < d) (h : (!decide (t < 0) == decide (d < 0)) = true) : -t = G := by
  by_cases a : t < 0 <;> by_cases b : d < 0 <;> simp [a, b] at h <;> omega
theorem flip_no {t d G : Int} (hg : t = G ∨ t = -G) (h1 : 0 < d → 0 < G) (h2 : d < 0 → G < 0) (hd : d < 0 ∨ 0 < d) (h : (!decide (t < 0) == decide (d < 0)) = false) : t = G := by
  by_cases a : t < 0 <;> by_cases b : d < 0 <;> simp [a, b] at h <;> omega

set_option maxHeartbeats 1600000 in
theorem reduce_big (n d : Int) (w : World) (hn : -9223372036854775807 ≤ n) (hn' : n ≤ 9223372036854775807) (hd : -9223372036854775807 ≤ d) (hd' : d ≤ 9223372036854775807) (h0 : d ≠ 0) :
    Calls Try.prog 56 #[.int .i64 n, .int .i64 d] w fun e w' => e = .returned (.tuple #[.agg #[.int .i64 (Rt.redN n d), .int .i64 (Rt.redD n d)], .int .i64 (Rt.redE n d)]) ∧ Below w.heap.size w w' := by
  have hbb : (d == 0) = false := by simpa using h0
  have hG1 := (Rt.redG_sign (n := n) h0).1
  have hG2 := (Rt.redG_sign (n := n) h0).2
  have hx : n.tdiv (Rt.redG n d) = Rt.qN n d := Int.tdiv_eq_ediv_of_dvd (Rt.redG_dvd_n n d h0)
  have hy : d.tdiv (Rt.redG n d) = Rt.qD n d := Int.tdiv_eq_ediv_of_dvd (Rt.redG_dvd_d n d h0)
  have hg : Rt.tgcd n d = Rt.redG n d ∨ Rt.tgcd n d = -Rt.redG n d := by
    have h1 := Rt.tgcd_abs n d
    have h2 : (Rt.redG n d).natAbs = Int.gcd n d := by
      unfold Rt.redG; rw [Int.natAbs_mul, Int.natAbs_sign, if_neg h0]; simp
    omega
  have hGb : -9223372036854775807 ≤ Rt.redG n d ∧ Rt.redG n d ≤ 9223372036854775807 := by
    have h2 : (Rt.redG n d).natAbs = Int.gcd n d := by
      unfold Rt.redG; rw [Int.natAbs_mul, Int.natAbs_sign, if_neg h0]; simp
    have h3 : Int.gcd n d ≤ d.natAbs := Nat.le_of_dvd (by omega) (Int.gcd_dvd_natAbs_right n d)
    omega
  generalize Rt.redG n d = G at *
  obtain ⟨hGl, hGu⟩ := hGb
  obtain ⟨hxl, hxu⟩ := tdiv_in n G hn hn'
  obtain ⟨hyl, hyu⟩ := tdiv_in d G hd hd'
  have hmf : ∀ (fn : Fn) (first cap : Array Value) (w : World), (Instr.makeFunc fn first cap).run Try.prog w = .ok (.func fn first cap) w := fun _ _ _ _ => rfl
  have HX := Lib.hid hx; clear hx
  have HY := Lib.hid hy; clear hy
  have hGn : ¬ G = 0 := by omega
  have hG0 : (G == 0) = false := by simpa using hGn
  have hds : d < 0 ∨ 0 < d := by omega
  go_enter Try.func56, Try.ntmps56
  go_wp2_with fail
  refine (divisor_any _ n d _ _ (Nat.le_refl _) (by omega) (by omega) (by omega) (by omega) (by go_simp)).mono ?_
  rintro e w' ⟨rfl, m, rfl⟩
  go_upto_if 21 with fail
  go_cut [7] (fun s7 wc => s7 = .int .i64 G ∧ wc.heap.size = w.heap.size + 1 + 1 ∧ wc.cell? ⟨w.heap.size, 0, none⟩ = some (.int .i64 0) ∧ wc.cell? ⟨w.heap.size, 1, none⟩ = some (.int .i64 0) ∧ wc.frozen? ⟨w.heap.size, 0, none⟩ = false ∧ wc.frozen? ⟨w.heap.size, 1, none⟩ = false ∧ Below w.heap.size w wc)
  case first =>
    go_wp2_with fail
    · have hv := flip_yes hg hG1 hG2 hds (by assumption)
      have HV := Lib.hid hv; clear hv
      go_meet
      exact ⟨by rw [HV.out], by simp, by go_simp, by go_simp, by go_simp, by go_simp, below_drewN (by go_grown) _⟩
    · have hv := flip_no hg hG1 hG2 hds (by assumption)
      have HV := Lib.hid hv; clear hv
      go_meet
      exact ⟨by rw [HV.out], by simp, by go_simp, by go_simp, by go_simp, by go_simp, below_drewN (by go_grown) _⟩
  case rest =>
    obtain ⟨rfl, hz, hc0, hc1, hf0, hf1, hb0⟩ := hcut
    clear hG1 hG2 hds hg
    have HB := Lib.hid hb0; clear hb0
    have HZ := Lib.hid (show w.heap.size ≤ wc.heap.size by omega)
    have HE : Hid (Rt.redE n d = if Rt.lim (n.tdiv G) (d.tdiv G) = true then 0 else 3) := by
      rw [HX.out, HY.out]; unfold Rt.redE; rw [if_neg h0]; exact rfl
    by_cases hl : Rt.lim (n.tdiv G) (d.tdiv G) = true
    · have HL := Lib.hid hl; clear hl
      go_wp2_with fail
      go_region
      go_wp2_with fail
      refine (within_yes _ _ _ HL.out).mono ?_; rintro e w1 ⟨rfl, hb⟩
      obtain ⟨hc, hf⟩ := bcell hb
      have hz1 : w.heap.size + 1 + 1 < w1.heap.size := by have := hb.size; simp at this; omega
      have q0 : w1.cell? ⟨w.heap.size, 0, none⟩ = some (.int .i64 0) := by rw [hc _ _ (by simp; omega)]; go_simp
      have q1 : w1.cell? ⟨w.heap.size, 1, none⟩ = some (.int .i64 0) := by rw [hc _ _ (by simp; omega)]; go_simp
      go_wp2_with fail
      refine bodyPost_ret (v := .tuple #[.agg #[.int .i64 (n.tdiv G), .int .i64 (d.tdiv G)], .int .i64 0]) (by simp [results, Try.results56, go_sem, q0, q1]) rfl ⟨?_, ?_⟩
      · have e0 : Rt.redE n d = 0 := by rw [HE.out, if_pos HL.out]
        have e1 : Rt.redN n d = n.tdiv G := by rw [HX.out]; exact (Rt.red_ok e0).2.2.2.1
        have e2 : Rt.redD n d = d.tdiv G := by rw [HY.out]; exact (Rt.red_ok e0).2.2.2.2
        rw [e0, e1, e2]
      · exact ((((HB.out.alloc HZ.out _).drew).trans (hb.mono (by simp; omega))).setCell (by simp) _).setCell (by simp) _
    · have HL : Hid (Rt.lim (n.tdiv G) (d.tdiv G) = false) := Lib.hid (by simpa using hl)
      clear hl
      go_wp2_with fail
      go_region
      go_wp2_with fail
      refine (within_no _ _ _ HL.out).mono ?_; rintro e w1 ⟨rfl, hb⟩
      obtain ⟨hc, hf⟩ := bcell hb
      have hz1 : w.heap.size + 1 + 1 < w1.heap.size := by have := hb.size; simp at this; omega
      have q0 : w1.cell? ⟨w.heap.size, 0, none⟩ = some (.int .i64 0) := by rw [hc _ _ (by simp; omega)]; go_simp
      have q1 : w1.cell? ⟨w.heap.size, 1, none⟩ = some (.int .i64 0) := by rw [hc _ _ (by simp; omega)]; go_simp
      go_wp2_with fail
      refine bodyPost_ret (v := .tuple #[.agg #[.int .i64 0, .int .i64 0], .int .i64 3]) (by simp [results, Try.results56, go_sem, q0, q1]) rfl ⟨?_, ?_⟩
      · have e0 : Rt.redE n d = 3 := by rw [HE.out, if_neg (by rw [HL.out]; simp)]
        have e1 := Rt.red_err (n := n) (d := d) (by omega)
        rw [e0, e1.1, e1.2]
      · exact ((((HB.out.alloc HZ.out _).drew).trans (hb.mono (by simp; omega))).setCell (by simp) _).setCell (by simp) _
end Go.Proofs.Ytahdlkdiadlgeaa

/- The walks of 'Valid' of package ratio. -/
namespace Go.Proofs.Ytahdlkdiadlgeaa
open Go.RowKit

theorem reduce_any (n d : Int) (w : World) (hn : -9223372036854775807 ≤ n) (hn' : n ≤ 9223372036854775807) (hd : -9223372036854775807 ≤ d) (hd' : d ≤ 9223372036854775807) :
    Calls Try.prog 56 #[.int .i64 n, .int .i64 d] w fun e w' => e = .returned (.tuple #[.agg #[.int .i64 (Rt.redN n d), .int .i64 (Rt.redD n d)], .int .i64 (Rt.redE n d)]) ∧ Below w.heap.size w w' := by
  by_cases h0 : d = 0
  · subst h0
    have e0 : Rt.redE n 0 = 1 := Rt.redE_one.2 rfl
    have e1 := Rt.red_err (n := n) (d := 0) (by omega)
    rw [e0, e1.1, e1.2]
    exact reduce_zero n w
  · exact reduce_big n d w hn hn' hd hd' h0

theorem valid_eq {n d : Int} (hl : Rt.lim n d = true) : (Rt.redN n d == n && Rt.redD n d == d) = Rt.vld n d := by
  have h := Rt.lim_iff.1 hl
  by_cases hv : Rt.vld n d = true
  · have := Rt.red_of (n := n) (d := d) (by omega) hv (Int.mul_comm n d)
    rw [hv, this.2.1, this.2.2]; simp
  · have hv' : Rt.vld n d = false := by simpa using hv
    rw [hv']
    by_cases e : Rt.redE n d = 0
    · have h1 := (Rt.red_ok e).2.1
      by_cases h2 : Rt.redN n d = n
      · by_cases h3 : Rt.redD n d = d
        · rw [h2, h3] at h1; exact absurd h1 hv
        · simp [h3]
      · simp [h2]
    · have h1 := (Rt.red_err e).2
      have h3 : ¬ Rt.redD n d = d := by omega
      simp [h3]

set_option maxHeartbeats 400000 in
theorem valid_lim (n d : Int) (w : World) (h : Rt.lim n d = true) :
    Calls Try.prog 43 #[.agg #[.int .i64 n, .int .i64 d]] w fun e w' => e = .returned (.bool (Rt.redN n d == n && Rt.redD n d == d)) ∧ Below w.heap.size w w' := by
  have hb := Rt.lim_iff.1 h
  have H := Lib.hid h
  have HB := Lib.hid hb
  clear h hb
  go_enter Try.func43, Try.ntmps43
  go_wp2_with fail
  refine (within_yes _ _ _ H.out).mono ?_; rintro e w1 ⟨rfl, hb1⟩
  obtain ⟨hc, hf⟩ := bcell hb1
  have hz1 : w.heap.size < w1.heap.size := by have := hb1.size; simp at this; omega
  go_wp2_with fail
  refine (reduce_any _ _ _ (by have := HB.out; omega) (by have := HB.out; omega) (by have := HB.out; omega) (by have := HB.out; omega)).mono ?_; rintro e w2 ⟨rfl, hb2⟩
  obtain ⟨hc2, hf2⟩ := bcell hb2
  have hz2 : w.heap.size < w2.heap.size := by have := hb2.size; omega
  go_wp2_with fail
  all_goals
    go_ret
    refine ⟨by simp [*], ?_⟩
    exact ((((Below.refl _ _).alloc (Nat.le_refl _) _).trans (hb1.mono (by simp))).trans (hb2.mono (by omega))).alloc (by omega) _

set_option maxHeartbeats 400000 in
theorem valid_out (n d : Int) (w : World) (h : Rt.lim n d = false) :
    Calls Try.prog 43 #[.agg #[.int .i64 n, .int .i64 d]] w fun e w' => e = .returned (.bool false) ∧ Below w.heap.size w w' := by
  have H := Lib.hid h
  clear h
  go_enter Try.func43, Try.ntmps43
  go_wp2_with fail
  refine (within_no _ _ _ H.out).mono ?_; rintro e w1 ⟨rfl, hb1⟩
  go_wp2_with fail
  go_ret
  exact ⟨rfl, ((Below.refl _ _).alloc (Nat.le_refl _) _).trans (hb1.mono (by simp))⟩

/-- 'Valid' at whatever numbers. -/
theorem valid_any (n d : Int) (w : World) :
    Calls Try.prog 43 #[.agg #[.int .i64 n, .int .i64 d]] w fun e w' => e = .returned (.bool (Rt.vld n d)) ∧ Below w.heap.size w w' := by
  by_cases h : Rt.lim n d = true
  · rw [← valid_eq h]; exact valid_lim n d w h
  · have h' : Rt.lim n d = false := by simpa using h
    have e : Rt.vld n d = false := by unfold Rt.vld; rw [h']; rfl
    rw [e]; exact valid_out n d w h'
theorem valid_is (n d : Int) (b : Bool) (hb : Rt.vld n d = b) (w : World) :
    Calls Try.prog 43 #[.agg #[.int .i64 n, .int .i64 d]] w fun e w' => e = .returned (.bool b) ∧ Below w.heap.size w w' := by
  subst hb; exact valid_any n d w
end Go.Proofs.Ytahdlkdiadlgeaa

/- Plain facts on what ratio makes of two numbers. -/
namespace Go.Proofs.Ytahdlkdiadlgeaa
open Go.RowKit

/-- What an operator makes of two ratios: the numbers of the result, and its error. -/
def Rt.opE (ok : Bool) (x y : Int) : Int := if ok = true then Rt.redE x y else 1
def Rt.opN (ok : Bool) (x y : Int) : Int := if ok = true then Rt.redN x y else 0
def Rt.opD (ok : Bool) (x y : Int) : Int := if ok = true then Rt.redD x y else 0
theorem Rt.op_yes (x y : Int) : Rt.opE true x y = Rt.redE x y ∧ Rt.opN true x y = Rt.redN x y ∧ Rt.opD true x y = Rt.redD x y := ⟨rfl, rfl, rfl⟩
theorem Rt.op_no (x y : Int) : Rt.opE false x y = 1 ∧ Rt.opN false x y = 0 ∧ Rt.opD false x y = 0 := ⟨rfl, rfl, rfl⟩

theorem mul_in (a b A B : Int) (h1 : -A ≤ a) (h2 : a ≤ A) (h3 : -B ≤ b) (h4 : b ≤ B) : -(A * B) ≤ a * b ∧ a * b ≤ A * B := by
  have h : (a * b).natAbs ≤ (A * B).natAbs := by
    rw [Int.natAbs_mul, Int.natAbs_mul]; exact Nat.mul_le_mul (by omega) (by omega)
  have h5 : 0 ≤ A * B := Int.mul_nonneg (by omega) (by omega)
  omega
theorem muls_in (a b c d : Int) (h1 : -1000000000 ≤ a) (h2 : a ≤ 1000000000) (h3 : 1 ≤ b) (h4 : b ≤ 1000000) (h5 : -1000000000 ≤ c) (h6 : c ≤ 1000000000) (h7 : 1 ≤ d) (h8 : d ≤ 1000000) :
    (-1000000000000000 ≤ a * d ∧ a * d ≤ 1000000000000000) ∧ (-1000000000000000 ≤ c * b ∧ c * b ≤ 1000000000000000) ∧ (-1000000000000 ≤ b * d ∧ b * d ≤ 1000000000000) ∧
    (-1000000000000000000 ≤ a * c ∧ a * c ≤ 1000000000000000000) ∧ (-1000000000000000 ≤ b * c ∧ b * c ≤ 1000000000000000) := by
  have p1 := mul_in a d 1000000000 1000000 h1 h2 (by omega) h8
  have p3 := mul_in c b 1000000000 1000000 h5 h6 (by omega) h4
  have p5 := mul_in b d 1000000 1000000 (by omega) h4 (by omega) h8
  have p7 := mul_in a c 1000000000 1000000000 h1 h2 h5 h6
  have p9 := mul_in b c 1000000 1000000000 (by omega) h4 h5 h6
  omega

end Go.Proofs.Ytahdlkdiadlgeaa

/- The walk of ratio.Add. -/
namespace Go.Proofs.Ytahdlkdiadlgeaa
open Go.RowKit

set_option maxHeartbeats 400000 in
theorem add_op (a b c d : Int) (w : World) (h1 : -1000000000 ≤ a) (h2 : a ≤ 1000000000) (h3 : 1 ≤ b) (h4 : b ≤ 1000000) (h5 : -1000000000 ≤ c) (h6 : c ≤ 1000000000) (h7 : 1 ≤ d) (h8 : d ≤ 1000000) :
    Calls Try.prog 31 #[.agg #[.int .i64 a, .int .i64 b], .agg #[.int .i64 c, .int .i64 d]] w fun e w' => e = .returned (.tuple #[.int .i64 (a * d + c * b), .int .i64 (b * d)]) ∧ Below w.heap.size w w' := by
  obtain ⟨⟨p1, p2⟩, ⟨p3, p4⟩, ⟨p5, p6⟩, ⟨p7, p8⟩, ⟨p9, p10⟩⟩ := muls_in a b c d h1 h2 h3 h4 h5 h6 h7 h8
  go_enter Try.func31, Try.ntmps31
  go_wp2_with fail
  go_quiet (fail)
  go_wp2_with fail
  go_ret2
  exact ⟨rfl, below_drewN (by go_grown) _⟩

set_option maxHeartbeats 400000 in
theorem add_combine (a b c d : Int) (w : World) :
    Calls Try.prog 30 #[.agg #[.int .i64 a, .int .i64 b], .agg #[.int .i64 c, .int .i64 d], .func (.func 31) #[] #[]] w fun e w' =>
      e = .returned (.tuple #[.agg #[.int .i64 (Rt.opN (Rt.vld a b && Rt.vld c d) (a * d + c * b) (b * d)), .int .i64 (Rt.opD (Rt.vld a b && Rt.vld c d) (a * d + c * b) (b * d))], .int .i64 (Rt.opE (Rt.vld a b && Rt.vld c d) (a * d + c * b) (b * d))]) ∧ Below w.heap.size w w' := by
  by_cases hv1 : Rt.vld a b = true
  · by_cases hv2 : Rt.vld c d = true
    · rw [hv1, hv2]
      obtain ⟨h1, h2, h3, h4⟩ := Rt.vld_lim hv1
      obtain ⟨h5, h6, h7, h8⟩ := Rt.vld_lim hv2
      have HM := Lib.hid (muls_in a b c d h1 h2 h3 h4 h5 h6 h7 h8)
      have HV1 := Lib.hid hv1
      have HV2 := Lib.hid hv2
      clear hv1 hv2
      go_enter Try.func30, Try.ntmps30
      go_wp2_with fail
      refine (valid_is _ _ _ HV1.out _).mono ?_; rintro e w1 ⟨rfl, hb1⟩
      obtain ⟨hc1, hf1⟩ := bcell hb1
      have hz1 : w.heap.size + 1 + 1 < w1.heap.size := by have := hb1.size; simp at this; omega
      go_wp2_with fail
      refine (valid_is _ _ _ HV2.out _).mono ?_; rintro e w2 ⟨rfl, hb2'⟩
      have hb2 := hb1.trans (hb2'.mono hb1.size); clear hc1 hf1 hb1 hb2'
      obtain ⟨hc2, hf2⟩ := bcell hb2
      have hz2 : w.heap.size + 1 + 1 < w2.heap.size := by have := hb2.size; simp at this; omega
      go_wp2_with fail
      refine (add_op a b c d _ h1 h2 h3 h4 h5 h6 h7 h8).mono ?_; rintro e w3 ⟨rfl, hb3'⟩
      have hb3 := hb2.trans (hb3'.mono hb2.size); clear hc2 hf2 hb2 hb3'
      obtain ⟨hc3, hf3⟩ := bcell hb3
      have hz3 : w.heap.size + 1 + 1 < w3.heap.size := by have := hb3.size; simp at this; omega
      go_wp2_with fail
      refine (reduce_any _ _ _ (by have := HM.out; omega) (by have := HM.out; omega) (by have := HM.out; omega) (by have := HM.out; omega)).mono ?_; rintro e w4 ⟨rfl, hb4'⟩
      have hb4 := hb3.trans (hb4'.mono hb3.size); clear hc3 hf3 hb3 hb4'
      obtain ⟨hc4, hf4⟩ := bcell hb4
      have hz4 : w.heap.size + 1 + 1 < w4.heap.size := by have := hb4.size; simp at this; omega
      have q0 : w4.cell? ⟨w.heap.size + 1 + 1, 0, none⟩ = some (.int .i64 0) := by rw [hc4 _ _ (by simp)]; go_simp
      have q1 : w4.cell? ⟨w.heap.size + 1 + 1, 1, none⟩ = some (.int .i64 0) := by rw [hc4 _ _ (by simp)]; go_simp
      go_wp2_with fail
      refine bodyPost_ret (v := .tuple #[.agg #[.int .i64 (Rt.redN (a * d + c * b) (b * d)), .int .i64 (Rt.redD (a * d + c * b) (b * d))], .int .i64 (Rt.redE (a * d + c * b) (b * d))]) (by simp [results, Try.results30, go_sem, q0, q1]) rfl ⟨rfl, ?_⟩
      exact ((((((Below.refl _ _).alloc (Nat.le_refl _) _).alloc (by simp) _).alloc (by simp; omega) _).trans (hb4.mono (by simp; omega))).setCell (by simp; omega) _).setCell (by simp; omega) _
    · have hv2' : Rt.vld c d = false := by simpa using hv2
      rw [hv1, hv2']
      have HV1 := Lib.hid hv1
      have HV2 := Lib.hid hv2'
      clear hv1 hv2 hv2'
      go_enter Try.func30, Try.ntmps30
      go_wp2_with fail
      refine (valid_is _ _ _ HV1.out _).mono ?_; rintro e w1 ⟨rfl, hb1⟩
      obtain ⟨hc1, hf1⟩ := bcell hb1
      have hz1 : w.heap.size + 1 + 1 < w1.heap.size := by have := hb1.size; simp at this; omega
      go_wp2_with fail
      refine (valid_is _ _ _ HV2.out _).mono ?_; rintro e w2 ⟨rfl, hb2'⟩
      have hb4 := hb1.trans (hb2'.mono hb1.size); clear hc1 hf1 hb1 hb2'
      obtain ⟨hc4, hf4⟩ := bcell hb4
      have hz2 : w.heap.size + 1 + 1 < w2.heap.size := by have := hb4.size; simp at this; omega
      have q0 : w2.cell? ⟨w.heap.size + 1 + 1, 0, none⟩ = some (.int .i64 0) := by rw [hc4 _ _ (by simp)]; go_simp
      have q1 : w2.cell? ⟨w.heap.size + 1 + 1, 1, none⟩ = some (.int .i64 0) := by rw [hc4 _ _ (by simp)]; go_simp
      go_wp2_with fail
      refine bodyPost_ret (v := .tuple #[.agg #[.int .i64 0, .int .i64 0], .int .i64 1]) (by simp [results, Try.results30, go_sem, q0, q1]) rfl ⟨rfl, ?_⟩
      exact ((((((Below.refl _ _).alloc (Nat.le_refl _) _).alloc (by simp) _).alloc (by simp; omega) _).trans (hb4.mono (by simp; omega))).setCell (by simp; omega) _).setCell (by simp; omega) _
  · have hv1' : Rt.vld a b = false := by simpa using hv1
    rw [hv1']
    have HV1 := Lib.hid hv1'
    clear hv1 hv1'
    go_enter Try.func30, Try.ntmps30
    go_wp2_with fail
    refine (valid_is _ _ _ HV1.out _).mono ?_; rintro e w2 ⟨rfl, hb4⟩
    obtain ⟨hc4, hf4⟩ := bcell hb4
    have hz2 : w.heap.size + 1 + 1 < w2.heap.size := by have := hb4.size; simp at this; omega
    have q0 : w2.cell? ⟨w.heap.size + 1 + 1, 0, none⟩ = some (.int .i64 0) := by rw [hc4 _ _ (by simp)]; go_simp
    have q1 : w2.cell? ⟨w.heap.size + 1 + 1, 1, none⟩ = some (.int .i64 0) := by rw [hc4 _ _ (by simp)]; go_simp
    go_wp2_with fail
    refine bodyPost_ret (v := .tuple #[.agg #[.int .i64 0, .int .i64 0], .int .i64 1]) (by simp [results, Try.results30, go_sem, q0, q1]) rfl ⟨rfl, ?_⟩
    exact ((((((Below.refl _ _).alloc (Nat.le_refl _) _).alloc (by simp) _).alloc (by simp; omega) _).trans (hb4.mono (by simp; omega))).setCell (by simp; omega) _).setCell (by simp; omega) _

set_option maxHeartbeats 400000 in
/-- 'Add' at whatever numbers. -/
theorem add_any (a b c d : Int) (w : World) :
    Calls Try.prog 13 #[.agg #[.int .i64 a, .int .i64 b], .agg #[.int .i64 c, .int .i64 d]] w fun e w' =>
      e = .returned (.tuple #[.agg #[.int .i64 (Rt.opN (Rt.vld a b && Rt.vld c d) (a * d + c * b) (b * d)), .int .i64 (Rt.opD (Rt.vld a b && Rt.vld c d) (a * d + c * b) (b * d))], .int .i64 (Rt.opE (Rt.vld a b && Rt.vld c d) (a * d + c * b) (b * d))]) ∧ Below w.heap.size w w' := by
  go_enter Try.func13, Try.ntmps13
  go_wp2_with fail
  refine (add_combine a b c d _).mono ?_; rintro e w2 ⟨rfl, hb4⟩
  obtain ⟨hc4, hf4⟩ := bcell hb4
  have hz2 : w.heap.size + 1 + 1 < w2.heap.size := by have := hb4.size; simp at this; omega
  have q0 : w2.cell? ⟨w.heap.size + 1 + 1, 0, none⟩ = some (.int .i64 0) := by rw [hc4 _ _ (by simp)]; go_simp
  have q1 : w2.cell? ⟨w.heap.size + 1 + 1, 1, none⟩ = some (.int .i64 0) := by rw [hc4 _ _ (by simp)]; go_simp
  go_wp2_with fail
  refine bodyPost_ret (v := .tuple #[.agg #[.int .i64 (Rt.opN (Rt.vld a b && Rt.vld c d) (a * d + c * b) (b * d)), .int .i64 (Rt.opD (Rt.vld a b && Rt.vld c d) (a * d + c * b) (b * d))], .int .i64 (Rt.opE (Rt.vld a b && Rt.vld c d) (a * d + c * b) (b * d))]) (by simp [results, Try.results13, go_sem, q0, q1]) rfl ⟨rfl, ?_⟩
  exact ((((((Below.refl _ _).alloc (Nat.le_refl _) _).alloc (by simp) _).alloc (by simp; omega) _).trans (hb4.mono (by simp; omega))).setCell (by simp; omega) _).setCell (by simp; omega) _

/-- The numbers and the error of 'Add'. -/
def Rt.addR (a b c d : Int) : Int × Int × Int := (Rt.opN (Rt.vld a b && Rt.vld c d) (a * d + c * b) (b * d), Rt.opD (Rt.vld a b && Rt.vld c d) (a * d + c * b) (b * d), Rt.opE (Rt.vld a b && Rt.vld c d) (a * d + c * b) (b * d))
theorem add_is (a b c d N D E : Int) (h : Rt.addR a b c d = (N, D, E)) (w : World) :
    Calls Try.prog 13 #[.agg #[.int .i64 a, .int .i64 b], .agg #[.int .i64 c, .int .i64 d]] w fun e w' =>
      e = .returned (.tuple #[.agg #[.int .i64 N, .int .i64 D], .int .i64 E]) ∧ Below w.heap.size w w' := by
  obtain ⟨rfl, rfl, rfl⟩ : Rt.opN (Rt.vld a b && Rt.vld c d) (a * d + c * b) (b * d) = N ∧ Rt.opD (Rt.vld a b && Rt.vld c d) (a * d + c * b) (b * d) = D ∧ Rt.opE (Rt.vld a b && Rt.vld c d) (a * d + c * b) (b * d) = E := by
    simpa [Rt.addR] using h
  exact add_any a b c d w

end Go.Proofs.Ytahdlkdiadlgeaa

/- The walk of ratio.Compare. -/
namespace Go.Proofs.Ytahdlkdiadlgeaa
open Go.RowKit

def Rt.cmpI (x y : Int) : Int := if x < y then -1 else if y < x then 1 else 0

def Rt.cmpV (ok : Bool) (x y : Int) : Int := if ok = true then Rt.cmpI x y else 0
def Rt.cmpE (ok : Bool) : Int := if ok = true then 0 else 1

def Rt.cmpR (a b c d : Int) : Int × Int := (Rt.cmpV (Rt.vld a b && Rt.vld c d) (a * d) (c * b), Rt.cmpE (Rt.vld a b && Rt.vld c d))
end Go.Proofs.Ytahdlkdiadlgeaa
