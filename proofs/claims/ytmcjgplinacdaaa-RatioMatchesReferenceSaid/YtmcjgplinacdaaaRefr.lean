/- The walks of the reference's reduce. -/
import Derived.Test.YtmcjgplinacdaaaRefv
namespace Go.Proofs.Ytmcjgplinacdaaa
open Go.RowKit

theorem q_pos (n d : Int) (h : 0 < d) : Rt.qN n d = (n.tdiv (Int.gcd n d : Nat)) ∧ Rt.qD n d = (d.tdiv (Int.gcd n d : Nat)) := by
  have h0 : d ≠ 0 := by omega
  have a := Rt.redG_dvd_n n d h0
  have b := Rt.redG_dvd_d n d h0
  have e1 : Rt.qN n d = n.tdiv (Rt.redG n d) := (Int.tdiv_eq_ediv_of_dvd a).symm
  have e2 : Rt.qD n d = d.tdiv (Rt.redG n d) := (Int.tdiv_eq_ediv_of_dvd b).symm
  rw [e1, e2]
  unfold Rt.redG
  rw [Int.sign_eq_one_of_pos h]
  simp
theorem lim_q_pos (n d : Int) (h : 0 < d) : (1000000 < (d.tdiv (Int.gcd n d : Nat)) → Rt.lim (Rt.qN n d) (Rt.qD n d) = false) ∧
    (1000000000 < ((n.tdiv (Int.gcd n d : Nat)).natAbs : Int) → Rt.lim (Rt.qN n d) (Rt.qD n d) = false) ∧
    (¬ 1000000 < (d.tdiv (Int.gcd n d : Nat)) → ¬ 1000000000 < ((n.tdiv (Int.gcd n d : Nat)).natAbs : Int) → Rt.lim (Rt.qN n d) (Rt.qD n d) = true) := by
  have h0 : d ≠ 0 := by omega
  have hp := Rt.qD_pos (n := n) h0
  obtain ⟨e1, e2⟩ := q_pos n d h
  rw [← e1, ← e2]
  refine ⟨fun h1 => ?_, fun h1 => ?_, fun h1 h2 => Rt.lim_iff.2 (by omega)⟩
  · refine Bool.eq_false_iff.2 fun h2 => ?_
    have := Rt.lim_iff.1 h2; omega
  · refine Bool.eq_false_iff.2 fun h2 => ?_
    have := Rt.lim_iff.1 h2; omega

set_option maxHeartbeats 1600000 in
theorem rreduce_pos (n d : Int) (w : World) (hn : -9223372036854775807 ≤ n) (hn' : n ≤ 9223372036854775807) (hd : -9223372036854775807 ≤ d) (hd' : d ≤ 9223372036854775807) (h0 : 0 < d) :
    Calls Try.prog 33 #[.int .i64 n, .int .i64 d] w fun e w' => e = .returned (.tuple #[.agg #[.int .i64 (Rt.redN n d), .int .i64 (Rt.redD n d)], .int .i64 (Rt.redE n d)]) ∧ Below w.heap.size w w' := by
  have hg1 : 0 < Int.gcd n d := Rt.gcd_pos (by omega)
  obtain ⟨hq1, hq2⟩ := q_pos n d h0
  obtain ⟨l1, l2, l3⟩ := lim_q_pos n d h0
  have C : ∀ w', Calls Try.prog 35 #[.int .i64 (((n).natAbs : Nat) : Int), .int .i64 (d)] w' fun e w'' => e = .returned (.int .i64 (Int.gcd n d : Nat)) ∧ w' = w'' := by
    intro w'
    have e1 : Int.gcd (((n).natAbs : Nat) : Int) (d) = Int.gcd n d := by simp [Int.gcd]
    rw [← e1]
    exact gcd_int _ _ w' (by omega) (by omega) (by omega) (by omega)
  generalize hgg : ((Int.gcd n d : Nat) : Int) = g at *
  have hg0 : 0 < g := by omega
  clear hgg
  have CH := Lib.hid C; clear C
  have hgn : ¬ g = 0 := by omega
  have hgb : (g == 0) = false := by simpa using hgn
  have hx := Int.natAbs_tdiv_le_natAbs n g
  have hy := Int.natAbs_tdiv_le_natAbs d g
  have hxl : -9223372036854775807 ≤ (n.tdiv g) := by omega
  have hxu : (n.tdiv g) ≤ 9223372036854775807 := by omega
  have hyl : -9223372036854775807 ≤ (d.tdiv g) := by omega
  have hyu : (d.tdiv g) ≤ 9223372036854775807 := by omega
  clear hx hy
  generalize hk : ((n.tdiv g).natAbs : Int) = k at *
  have hk0 : 0 ≤ k := by omega
  have HK := Lib.hid hk; clear hk
  by_cases hD : 1000000 < (d.tdiv g)
  · have e0 : Rt.redE n d = 3 := by unfold Rt.redE; rw [if_neg (by omega), l1 hD]; rfl
    obtain ⟨e1, e2⟩ := Rt.red_err (n := n) (d := d) (by omega)
    have HE := Lib.hid e0
    have HN := Lib.hid e1
    have HD := Lib.hid e2
    clear e0 e1 e2 l1 l2 l3 hq1 hq2
    go_enter Try.func33, Try.ntmps33
    go_wp2_with fail
    refine (abs_any n _ (by omega) (by omega)).mono ?_; rintro e w1 ⟨rfl, rfl⟩
    go_wp2_with fail
    refine (CH.out _).mono ?_; rintro e w1 ⟨rfl, rfl⟩
    go_wp2_with fail
    go_region
    go_wp2_with fail
    refine bodyPost_ret (v := .tuple #[.agg #[.int .i64 0, .int .i64 0], .int .i64 3]) (by simp [results, Try.results33, go_sem]) rfl ⟨?_, by go_grown⟩
    rw [HE.out, HN.out, HD.out]
  · by_cases hN : 1000000000 < k
    · have e0 : Rt.redE n d = 3 := by unfold Rt.redE; rw [if_neg (by omega), l2 hN]; rfl
      obtain ⟨e1, e2⟩ := Rt.red_err (n := n) (d := d) (by omega)
      have HE := Lib.hid e0
      have HN := Lib.hid e1
      have HD := Lib.hid e2
      clear e0 e1 e2 l1 l2 l3 hq1 hq2
      go_enter Try.func33, Try.ntmps33
      go_wp2_with fail
      refine (abs_any n _ (by omega) (by omega)).mono ?_; rintro e w1 ⟨rfl, rfl⟩
      go_wp2_with fail
      refine (CH.out _).mono ?_; rintro e w1 ⟨rfl, rfl⟩
      go_wp2_with fail
      go_region
      go_wp2_with fail
      refine (abs_is _ _ HK.out _ (by omega) (by omega)).mono ?_; rintro e w1 ⟨rfl, rfl⟩
      go_wp2_with fail
      refine bodyPost_ret (v := .tuple #[.agg #[.int .i64 0, .int .i64 0], .int .i64 3]) (by simp [results, Try.results33, go_sem]) rfl ⟨?_, by go_grown⟩
      rw [HE.out, HN.out, HD.out]
    · have e0 : Rt.redE n d = 0 := by unfold Rt.redE; rw [if_neg (by omega), l3 hD hN]; rfl
      obtain ⟨_, _, _, e1, e2⟩ := Rt.red_ok e0
      have HE := Lib.hid e0
      have HN := Lib.hid (e1.trans hq1)
      have HD := Lib.hid (e2.trans hq2)
      clear e0 e1 e2 l1 l2 l3 hq1 hq2
      go_enter Try.func33, Try.ntmps33
      go_wp2_with fail
      refine (abs_any n _ (by omega) (by omega)).mono ?_; rintro e w1 ⟨rfl, rfl⟩
      go_wp2_with fail
      refine (CH.out _).mono ?_; rintro e w1 ⟨rfl, rfl⟩
      go_wp2_with fail
      go_region
      go_wp2_with fail
      refine (abs_is _ _ HK.out _ (by omega) (by omega)).mono ?_; rintro e w1 ⟨rfl, rfl⟩
      go_wp2_with fail
      refine bodyPost_ret (v := .tuple #[.agg #[.int .i64 (n.tdiv g), .int .i64 (d.tdiv g)], .int .i64 0]) (by simp [results, Try.results33, go_sem]) rfl ⟨?_, by go_grown⟩
      rw [HE.out, HN.out, HD.out]

theorem q_neg (n d : Int) (h : d < 0) : Rt.qN n d = (-n.tdiv (Int.gcd n d : Nat)) ∧ Rt.qD n d = (-d.tdiv (Int.gcd n d : Nat)) := by
  have h0 : d ≠ 0 := by omega
  have a := Rt.redG_dvd_n n d h0
  have b := Rt.redG_dvd_d n d h0
  have e1 : Rt.qN n d = n.tdiv (Rt.redG n d) := (Int.tdiv_eq_ediv_of_dvd a).symm
  have e2 : Rt.qD n d = d.tdiv (Rt.redG n d) := (Int.tdiv_eq_ediv_of_dvd b).symm
  rw [e1, e2]
  unfold Rt.redG
  rw [Int.sign_eq_neg_one_of_neg h]
  simp
theorem lim_q_neg (n d : Int) (h : d < 0) : (1000000 < (-d.tdiv (Int.gcd n d : Nat)) → Rt.lim (Rt.qN n d) (Rt.qD n d) = false) ∧
    (1000000000 < ((-n.tdiv (Int.gcd n d : Nat)).natAbs : Int) → Rt.lim (Rt.qN n d) (Rt.qD n d) = false) ∧
    (¬ 1000000 < (-d.tdiv (Int.gcd n d : Nat)) → ¬ 1000000000 < ((-n.tdiv (Int.gcd n d : Nat)).natAbs : Int) → Rt.lim (Rt.qN n d) (Rt.qD n d) = true) := by
  have h0 : d ≠ 0 := by omega
  have hp := Rt.qD_pos (n := n) h0
  obtain ⟨e1, e2⟩ := q_neg n d h
  rw [← e1, ← e2]
  refine ⟨fun h1 => ?_, fun h1 => ?_, fun h1 h2 => Rt.lim_iff.2 (by omega)⟩
  · refine Bool.eq_false_iff.2 fun h2 => ?_
    have := Rt.lim_iff.1 h2; omega
  · refine Bool.eq_false_iff.2 fun h2 => ?_
    have := Rt.lim_iff.1 h2; omega

set_option maxHeartbeats 1600000 in
theorem rreduce_neg (n d : Int) (w : World) (hn : -9223372036854775807 ≤ n) (hn' : n ≤ 9223372036854775807) (hd : -9223372036854775807 ≤ d) (hd' : d ≤ 9223372036854775807) (h0 : d < 0) :
    Calls Try.prog 33 #[.int .i64 n, .int .i64 d] w fun e w' => e = .returned (.tuple #[.agg #[.int .i64 (Rt.redN n d), .int .i64 (Rt.redD n d)], .int .i64 (Rt.redE n d)]) ∧ Below w.heap.size w w' := by
  have hg1 : 0 < Int.gcd n d := Rt.gcd_pos (by omega)
  obtain ⟨hq1, hq2⟩ := q_neg n d h0
  obtain ⟨l1, l2, l3⟩ := lim_q_neg n d h0
  have C : ∀ w', Calls Try.prog 35 #[.int .i64 (((n).natAbs : Nat) : Int), .int .i64 ((-d))] w' fun e w'' => e = .returned (.int .i64 (Int.gcd n d : Nat)) ∧ w' = w'' := by
    intro w'
    have e1 : Int.gcd (((n).natAbs : Nat) : Int) ((-d)) = Int.gcd n d := by simp [Int.gcd]
    rw [← e1]
    exact gcd_int _ _ w' (by omega) (by omega) (by omega) (by omega)
  generalize hgg : ((Int.gcd n d : Nat) : Int) = g at *
  have hg0 : 0 < g := by omega
  clear hgg
  have CH := Lib.hid C; clear C
  have hgn : ¬ g = 0 := by omega
  have hgb : (g == 0) = false := by simpa using hgn
  have hx := Int.natAbs_tdiv_le_natAbs n g
  have hy := Int.natAbs_tdiv_le_natAbs d g
  have hxl : -9223372036854775807 ≤ (-n.tdiv g) := by omega
  have hxu : (-n.tdiv g) ≤ 9223372036854775807 := by omega
  have hyl : -9223372036854775807 ≤ (-d.tdiv g) := by omega
  have hyu : (-d.tdiv g) ≤ 9223372036854775807 := by omega
  clear hx hy
  generalize hk : ((-n.tdiv g).natAbs : Int) = k at *
  have hk0 : 0 ≤ k := by omega
  have HK := Lib.hid hk; clear hk
  by_cases hD : 1000000 < (-d.tdiv g)
  · have e0 : Rt.redE n d = 3 := by unfold Rt.redE; rw [if_neg (by omega), l1 hD]; rfl
    obtain ⟨e1, e2⟩ := Rt.red_err (n := n) (d := d) (by omega)
    have HE := Lib.hid e0
    have HN := Lib.hid e1
    have HD := Lib.hid e2
    clear e0 e1 e2 l1 l2 l3 hq1 hq2
    go_enter Try.func33, Try.ntmps33
    go_wp2_with fail
    refine (abs_any (-n) _ (by omega) (by omega)).mono ?_; rintro e w1 ⟨rfl, rfl⟩
    go_wp2_with fail
    refine (CH.out _).mono ?_; rintro e w1 ⟨rfl, rfl⟩
    go_wp2_with fail
    go_region
    go_wp2_with fail
    refine bodyPost_ret (v := .tuple #[.agg #[.int .i64 0, .int .i64 0], .int .i64 3]) (by simp [results, Try.results33, go_sem]) rfl ⟨?_, by go_grown⟩
    rw [HE.out, HN.out, HD.out]
  · by_cases hN : 1000000000 < k
    · have e0 : Rt.redE n d = 3 := by unfold Rt.redE; rw [if_neg (by omega), l2 hN]; rfl
      obtain ⟨e1, e2⟩ := Rt.red_err (n := n) (d := d) (by omega)
      have HE := Lib.hid e0
      have HN := Lib.hid e1
      have HD := Lib.hid e2
      clear e0 e1 e2 l1 l2 l3 hq1 hq2
      go_enter Try.func33, Try.ntmps33
      go_wp2_with fail
      refine (abs_any (-n) _ (by omega) (by omega)).mono ?_; rintro e w1 ⟨rfl, rfl⟩
      go_wp2_with fail
      refine (CH.out _).mono ?_; rintro e w1 ⟨rfl, rfl⟩
      go_wp2_with fail
      go_region
      go_wp2_with fail
      refine (abs_is _ _ HK.out _ (by omega) (by omega)).mono ?_; rintro e w1 ⟨rfl, rfl⟩
      go_wp2_with fail
      refine bodyPost_ret (v := .tuple #[.agg #[.int .i64 0, .int .i64 0], .int .i64 3]) (by simp [results, Try.results33, go_sem]) rfl ⟨?_, by go_grown⟩
      rw [HE.out, HN.out, HD.out]
    · have e0 : Rt.redE n d = 0 := by unfold Rt.redE; rw [if_neg (by omega), l3 hD hN]; rfl
      obtain ⟨_, _, _, e1, e2⟩ := Rt.red_ok e0
      have HE := Lib.hid e0
      have HN := Lib.hid (e1.trans hq1)
      have HD := Lib.hid (e2.trans hq2)
      clear e0 e1 e2 l1 l2 l3 hq1 hq2
      go_enter Try.func33, Try.ntmps33
      go_wp2_with fail
      refine (abs_any (-n) _ (by omega) (by omega)).mono ?_; rintro e w1 ⟨rfl, rfl⟩
      go_wp2_with fail
      refine (CH.out _).mono ?_; rintro e w1 ⟨rfl, rfl⟩
      go_wp2_with fail
      go_region
      go_wp2_with fail
      refine (abs_is _ _ HK.out _ (by omega) (by omega)).mono ?_; rintro e w1 ⟨rfl, rfl⟩
      go_wp2_with fail
      refine bodyPost_ret (v := .tuple #[.agg #[.int .i64 (-n.tdiv g), .int .i64 (-d.tdiv g)], .int .i64 0]) (by simp [results, Try.results33, go_sem]) rfl ⟨?_, by go_grown⟩
      rw [HE.out, HN.out, HD.out]

theorem rreduce_any (n d : Int) (w : World) (hn : -9223372036854775807 ≤ n) (hn' : n ≤ 9223372036854775807) (hd : -9223372036854775807 ≤ d) (hd' : d ≤ 9223372036854775807) (h0 : d ≠ 0) :
    Calls Try.prog 33 #[.int .i64 n, .int .i64 d] w fun e w' => e = .returned (.tuple #[.agg #[.int .i64 (Rt.redN n d), .int .i64 (Rt.redD n d)], .int .i64 (Rt.redE n d)]) ∧ Below w.heap.size w w' := by
  by_cases h : 0 < d
  · exact rreduce_pos n d w hn hn' hd hd' h
  · exact rreduce_neg n d w hn hn' hd hd' (by omega)
end Go.Proofs.Ytmcjgplinacdaaa
