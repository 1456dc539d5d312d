/- The walks of 'within' and 'reduce' of package ratio. -/
import Derived.Test.YthamkigdpgajaaaRl
import Derived.RegionTactic
import Derived.Handy
import Derived.Laws.EntriesVeiled
import Derived.Deep.DeepCutAuto
namespace Go.Proofs.Ythamkigdpgajaaa
open Go.RowKit

set_option maxHeartbeats 400000 in
theorem within_yes (n d : Int) (w : World) (h : Rt.lim n d = true) :
    Calls Try.prog 49 #[.agg #[.int .i64 n, .int .i64 d]] w fun e w' => e = .returned (.bool true) ∧ Below w.heap.size w w' := by
  obtain ⟨h1, h2, h3, h4⟩ := Rt.lim_iff.1 h
  clear h
  go_enter Try.func49, Try.ntmps49
  go_wp2_with (go_at_call 52; refine (between_yes _ _ _ _ (by omega) (by omega)).mono ?_; rintro e w' ⟨rfl, rfl⟩)
  go_ret
  exact ⟨rfl, (Below.refl _ _).alloc (Nat.le_refl _) _⟩
set_option maxHeartbeats 400000 in
theorem within_no (n d : Int) (w : World) (h : Rt.lim n d = false) :
    Calls Try.prog 49 #[.agg #[.int .i64 n, .int .i64 d]] w fun e w' => e = .returned (.bool false) ∧ Below w.heap.size w w' := by
  have h' := Rt.lim_no h
  clear h
  by_cases h1 : -1000000000 ≤ n ∧ n ≤ 1000000000
  · obtain ⟨h1, h2⟩ := h1
    have h3 : d < 1 ∨ 1000000 < d := by omega
    have H := Lib.hid h3
    clear h3 h'
    go_enter Try.func49, Try.ntmps49
    go_wp2_with fail
    refine (between_yes _ _ _ _ (by omega) (by omega)).mono ?_; rintro e w' ⟨rfl, rfl⟩
    go_wp2_with fail
    refine (between_no _ _ _ _ H.out).mono ?_; rintro e w' ⟨rfl, rfl⟩
    go_wp2_with fail
    go_ret
    exact ⟨rfl, (Below.refl _ _).alloc (Nat.le_refl _) _⟩
  · have h3 : n < -1000000000 ∨ 1000000000 < n := by omega
    have H := Lib.hid h3
    clear h3 h' h1
    go_enter Try.func49, Try.ntmps49
    go_wp2_with fail
    refine (between_no _ _ _ _ H.out).mono ?_; rintro e w' ⟨rfl, rfl⟩
    go_wp2_with fail
    go_ret
    exact ⟨rfl, (Below.refl _ _).alloc (Nat.le_refl _) _⟩

set_option maxHeartbeats 400000 in
theorem reduce_zero (n : Int) (w : World) :
    Calls Try.prog 50 #[.int .i64 n, .int .i64 0] w fun e w' => e = .returned (.tuple #[.agg #[.int .i64 0, .int .i64 0], .int .i64 1]) ∧ Below w.heap.size w w' := by
  go_enter Try.func50, Try.ntmps50
  go_wp2_with fail
  refine bodyPost_ret (v := .tuple #[.agg #[.int .i64 0, .int .i64 0], .int .i64 1]) (by simp [results, Try.results50, go_sem]) rfl ⟨rfl, ?_⟩
  go_grown

theorem tdiv_in (n g : Int) (hn : -9223372036854775807 ≤ n) (hn' : n ≤ 9223372036854775807) : -9223372036854775807 ≤ n.tdiv g ∧ n.tdiv g ≤ 9223372036854775807 := by
  have h := Int.natAbs_tdiv_le_natAbs n g
  omega

theorem flip_yes {t d G : Int} (hg : t = G ∨ t = -G) (h1 : 0 < d → 0 < G) (h2 : d < 0 → G < 0) (hd : d < 0 ∨ 0 < d) (h : (!decide (t < 0) == decide (d < 0)) = true) : -t = G := by
  by_cases a : t < 0 <;> by_cases b : d < 0 <;> simp [a, b] at h <;> omega
theorem flip_no {t d G : Int} (hg : t = G ∨ t = -G) (h1 : 0 < d → 0 < G) (h2 : d < 0 → G < 0) (hd : d < 0 ∨ 0 < d) (h : (!decide (t < 0) == decide (d < 0)) = false) : t = G := by
  by_cases a : t < 0 <;> by_cases b : d < 0 <;> simp [a, b] at h <;> omega

set_option maxHeartbeats 1600000 in
theorem reduce_big (n d : Int) (w : World) (hn : -9223372036854775807 ≤ n) (hn' : n ≤ 9223372036854775807) (hd : -9223372036854775807 ≤ d) (hd' : d ≤ 9223372036854775807) (h0 : d ≠ 0) :
    Calls Try.prog 50 #[.int .i64 n, .int .i64 d] w fun e w' => e = .returned (.tuple #[.agg #[.int .i64 (Rt.redN n d), .int .i64 (Rt.redD n d)], .int .i64 (Rt.redE n d)]) ∧ Below w.heap.size w w' := by
  have hbb : (d == 0) = false := by simpa using h0
  have hG1 := (Rt.redG_sign (n := n) h0).1
  have hG2 := (Rt.redG_sign (n := n) h0).2
  have hx : n.tdiv (Rt.redG n d) = Rt.qN n d := Int.tdiv_eq_ediv_of_dvd (Rt.redG_dvd_n n d h0)
  have hy : d.tdiv (Rt.redG n d) = Rt.qD n d := Int.tdiv_eq_ediv_of_dvd (Rt.redG_dvd_d n d h0)
  have hg : Rt.tgcd n d = Rt.redG n d ∨ Rt.tgcd n d = -Rt.redG n d := by
    have h1 := Rt.tgcd_abs n d
    have h2 : (Rt.redG n d).natAbs = Int.gcd n d := by
      unfold Rt.redG; rw [Int.natAbs_mul, Int.natAbs_sign, if_neg h0]; simp
    omega
  have hGb : -9223372036854775807 ≤ Rt.redG n d ∧ Rt.redG n d ≤ 9223372036854775807 := by
    have h2 : (Rt.redG n d).natAbs = Int.gcd n d := by
      unfold Rt.redG; rw [Int.natAbs_mul, Int.natAbs_sign, if_neg h0]; simp
    have h3 : Int.gcd n d ≤ d.natAbs := Nat.le_of_dvd (by omega) (Int.gcd_dvd_natAbs_right n d)
    omega
  generalize Rt.redG n d = G at *
  obtain ⟨hGl, hGu⟩ := hGb
  obtain ⟨hxl, hxu⟩ := tdiv_in n G hn hn'
  obtain ⟨hyl, hyu⟩ := tdiv_in d G hd hd'
  have hmf : ∀ (fn : Fn) (first cap : Array Value) (w : World), (Instr.makeFunc fn first cap).run Try.prog w = .ok (.func fn first cap) w := fun _ _ _ _ => rfl
  have HX := Lib.hid hx; clear hx
  have HY := Lib.hid hy; clear hy
  have hGn : ¬ G = 0 := by omega
  have hG0 : (G == 0) = false := by simpa using hGn
  have hds : d < 0 ∨ 0 < d := by omega
  go_enter Try.func50, Try.ntmps50
  go_wp2_with fail
  refine (divisor_any _ n d _ _ (Nat.le_refl _) (by omega) (by omega) (by omega) (by omega) (by go_simp)).mono ?_
  rintro e w' ⟨rfl, m, rfl⟩
  go_upto_if 21 with fail
  go_cut [7] (fun s7 wc => s7 = .int .i64 G ∧ wc.heap.size = w.heap.size + 1 + 1 ∧ wc.cell? ⟨w.heap.size, 0, none⟩ = some (.int .i64 0) ∧ wc.cell? ⟨w.heap.size, 1, none⟩ = some (.int .i64 0) ∧ wc.frozen? ⟨w.heap.size, 0, none⟩ = false ∧ wc.frozen? ⟨w.heap.size, 1, none⟩ = false ∧ Below w.heap.size w wc)
  case first =>
    go_wp2_with fail
    · have hv := flip_yes hg hG1 hG2 hds (by assumption)
      have HV := Lib.hid hv; clear hv
      go_meet
      exact ⟨by rw [HV.out], by simp, by go_simp, by go_simp, by go_simp, by go_simp, below_drewN (by go_grown) _⟩
    · have hv := flip_no hg hG1 hG2 hds (by assumption)
      have HV := Lib.hid hv; clear hv
      go_meet
      exact ⟨by rw [HV.out], by simp, by go_simp, by go_simp, by go_simp, by go_simp, below_drewN (by go_grown) _⟩
  case rest =>
    obtain ⟨rfl, hz, hc0, hc1, hf0, hf1, hb0⟩ := hcut
    clear hG1 hG2 hds hg
    have HB := Lib.hid hb0; clear hb0
    have HZ := Lib.hid (show w.heap.size ≤ wc.heap.size by omega)
    have HE : Hid (Rt.redE n d = if Rt.lim (n.tdiv G) (d.tdiv G) = true then 0 else 3) := by
      rw [HX.out, HY.out]; unfold Rt.redE; rw [if_neg h0]; exact rfl
    by_cases hl : Rt.lim (n.tdiv G) (d.tdiv G) = true
    · have HL := Lib.hid hl; clear hl
      go_wp2_with fail
      go_region
      go_wp2_with fail
      refine (within_yes _ _ _ HL.out).mono ?_; rintro e w1 ⟨rfl, hb⟩
      obtain ⟨hc, hf⟩ := bcell hb
      have hz1 : w.heap.size + 1 + 1 < w1.heap.size := by have := hb.size; simp at this; omega
      have q0 : w1.cell? ⟨w.heap.size, 0, none⟩ = some (.int .i64 0) := by rw [hc _ _ (by simp; omega)]; go_simp
      have q1 : w1.cell? ⟨w.heap.size, 1, none⟩ = some (.int .i64 0) := by rw [hc _ _ (by simp; omega)]; go_simp
      go_wp2_with fail
      refine bodyPost_ret (v := .tuple #[.agg #[.int .i64 (n.tdiv G), .int .i64 (d.tdiv G)], .int .i64 0]) (by simp [results, Try.results50, go_sem, q0, q1]) rfl ⟨?_, ?_⟩
      · have e0 : Rt.redE n d = 0 := by rw [HE.out, if_pos HL.out]
        have e1 : Rt.redN n d = n.tdiv G := by rw [HX.out]; exact (Rt.red_ok e0).2.2.2.1
        have e2 : Rt.redD n d = d.tdiv G := by rw [HY.out]; exact (Rt.red_ok e0).2.2.2.2
        rw [e0, e1, e2]
      · exact ((((HB.out.alloc HZ.out _).drew).trans (hb.mono (by simp; omega))).setCell (by simp) _).setCell (by simp) _
    · have HL : Hid (Rt.lim (n.tdiv G) (d.tdiv G) = false) := Lib.hid (by simpa using hl)
      clear hl
      go_wp2_with fail
      go_region
      go_wp2_with fail
      refine (within_no _ _ _ HL.out).mono ?_; rintro e w1 ⟨rfl, hb⟩
      obtain ⟨hc, hf⟩ := bcell hb
      have hz1 : w.heap.size + 1 + 1 < w1.heap.size := by have := hb.size; simp at this; omega
      have q0 : w1.cell? ⟨w.heap.size, 0, none⟩ = some (.int .i64 0) := by rw [hc _ _ (by simp; omega)]; go_simp
      have q1 : w1.cell? ⟨w.heap.size, 1, none⟩ = some (.int .i64 0) := by rw [hc _ _ (by simp; omega)]; go_simp
      go_wp2_with fail
      refine bodyPost_ret (v := .tuple #[.agg #[.int .i64 0, .int .i64 0], .int .i64 3]) (by simp [results, Try.results50, go_sem, q0, q1]) rfl ⟨?_, ?_⟩
      · have e0 : Rt.redE n d = 3 := by rw [HE.out, if_neg (by rw [HL.out]; simp)]
        have e1 := Rt.red_err (n := n) (d := d) (by omega)
        rw [e0, e1.1, e1.2]
      · exact ((((HB.out.alloc HZ.out _).drew).trans (hb.mono (by simp; omega))).setCell (by simp) _).setCell (by simp) _
end Go.Proofs.Ythamkigdpgajaaa
