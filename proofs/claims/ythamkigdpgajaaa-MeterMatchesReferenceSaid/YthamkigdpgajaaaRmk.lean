/- The walk of ratio.Make. -/
import Derived.Test.YthamkigdpgajaaaRop
namespace Go.Proofs.Ythamkigdpgajaaa
open Go.RowKit

/-- Are both numbers of a fraction such as Make takes? -/
def Rt.takes (n d : Int) : Bool := decide (-1000000000000000 ≤ n) && decide (n ≤ 1000000000000000) && decide (-1000000000000000 ≤ d) && decide (d ≤ 1000000000000000)
theorem Rt.takes_iff {n d : Int} : Rt.takes n d = true ↔ -1000000000000000 ≤ n ∧ n ≤ 1000000000000000 ∧ -1000000000000000 ≤ d ∧ d ≤ 1000000000000000 := by
  unfold Rt.takes; simp [and_assoc]
theorem Rt.takes_no {n d : Int} (h : Rt.takes n d = false) : n < -1000000000000000 ∨ 1000000000000000 < n ∨ d < -1000000000000000 ∨ 1000000000000000 < d := by
  have h' : ¬ (Rt.takes n d = true) := by simp [h]
  rw [Rt.takes_iff] at h'; omega

set_option maxHeartbeats 400000 in
theorem make_any (n d : Int) (w : World) :
    Calls Try.prog 47 #[.int .i64 n, .int .i64 d] w fun e w' =>
      e = .returned (.tuple #[.agg #[.int .i64 (Rt.opN (Rt.takes n d) n d), .int .i64 (Rt.opD (Rt.takes n d) n d)], .int .i64 (Rt.opE (Rt.takes n d) n d)]) ∧ Below w.heap.size w w' := by
  by_cases hv : Rt.takes n d = true
  · rw [hv]
    obtain ⟨h1, h2, h3, h4⟩ := Rt.takes_iff.1 hv
    clear hv
    go_enter Try.func47, Try.ntmps47
    go_wp2_with fail
    refine (between_yes _ _ _ _ (by omega) (by omega)).mono ?_; rintro e w1 ⟨rfl, rfl⟩
    go_wp2_with fail
    refine (between_yes _ _ _ _ (by omega) (by omega)).mono ?_; rintro e w1 ⟨rfl, rfl⟩
    go_wp2_with fail
    refine (reduce_any _ _ _ (by omega) (by omega) (by omega) (by omega)).mono ?_; rintro e w4 ⟨rfl, hb4⟩
    obtain ⟨hc4, hf4⟩ := bcell hb4
    have q0 : w4.cell? ⟨w.heap.size, 0, none⟩ = some (.int .i64 0) := by rw [hc4 _ _ (by simp)]; go_simp
    have q1 : w4.cell? ⟨w.heap.size, 1, none⟩ = some (.int .i64 0) := by rw [hc4 _ _ (by simp)]; go_simp
    go_wp2_with fail
    refine bodyPost_ret (v := .tuple #[.agg #[.int .i64 (Rt.redN n d), .int .i64 (Rt.redD n d)], .int .i64 (Rt.redE n d)]) (by simp [results, Try.results47, go_sem, q0, q1]) rfl ⟨rfl, ?_⟩
    exact ((((Below.refl _ _).alloc (Nat.le_refl _) _).trans (hb4.mono (by simp))).setCell (by simp) _).setCell (by simp) _
  · have hv' : Rt.takes n d = false := by simpa using hv
    rw [hv']
    have h := Rt.takes_no hv'
    clear hv hv'
    by_cases h1 : n < -1000000000000000 ∨ 1000000000000000 < n
    · have H := Lib.hid h1
      clear h h1
      go_enter Try.func47, Try.ntmps47
      go_wp2_with fail
      refine (between_no _ _ _ _ H.out).mono ?_; rintro e w1 ⟨rfl, rfl⟩
      go_wp2_with fail
      refine bodyPost_ret (v := .tuple #[.agg #[.int .i64 0, .int .i64 0], .int .i64 1]) (by simp [results, Try.results47, go_sem]) rfl ⟨rfl, ?_⟩
      go_grown
    · have H := Lib.hid (show d < -1000000000000000 ∨ 1000000000000000 < d by omega)
      have h2 : -1000000000000000 ≤ n ∧ n ≤ 1000000000000000 := by omega
      obtain ⟨h3, h4⟩ := h2
      clear h h1
      go_enter Try.func47, Try.ntmps47
      go_wp2_with fail
      refine (between_yes _ _ _ _ (by omega) (by omega)).mono ?_; rintro e w1 ⟨rfl, rfl⟩
      go_wp2_with fail
      refine (between_no _ _ _ _ H.out).mono ?_; rintro e w1 ⟨rfl, rfl⟩
      go_wp2_with fail
      refine bodyPost_ret (v := .tuple #[.agg #[.int .i64 0, .int .i64 0], .int .i64 1]) (by simp [results, Try.results47, go_sem]) rfl ⟨rfl, ?_⟩
      go_grown

def Rt.makeR (n d : Int) : Int × Int × Int := (Rt.opN (Rt.takes n d) n d, Rt.opD (Rt.takes n d) n d, Rt.opE (Rt.takes n d) n d)
theorem make_is (n d N D E : Int) (h : Rt.makeR n d = (N, D, E)) (w : World) :
    Calls Try.prog 47 #[.int .i64 n, .int .i64 d] w fun e w' =>
      e = .returned (.tuple #[.agg #[.int .i64 N, .int .i64 D], .int .i64 E]) ∧ Below w.heap.size w w' := by
  obtain ⟨rfl, rfl, rfl⟩ : Rt.opN (Rt.takes n d) n d = N ∧ Rt.opD (Rt.takes n d) n d = D ∧ Rt.opE (Rt.takes n d) n d = E := by simpa [Rt.makeR] using h
  exact make_any n d w

end Go.Proofs.Ythamkigdpgajaaa
