/- The walks of meter's units, isDuration, quarters, isBar, end. -/
import Derived.Test.YthamkigdpgajaaaSb
import Derived.Test.YthamkigdpgajaaaTail
import Derived.Test.YthamkigdpgajaaaRval
import Derived.Test.YthamkigdpgajaaaRmk
import Derived.LoopTactic
namespace Go.Proofs.Ythamkigdpgajaaa
open Go.RowKit

namespace Mt
theorem tk_dur (n d : Int) : decide (0 ≤ tk n d) = (Rt.vld n d && decide (0 ≤ n) && decide (1680 % d = 0)) := by
  rcases tk_cases n d with h | ⟨h1, h2, h3, h4, h5, h6⟩
  · rw [h]
    have hd : decide ((0 : Int) ≤ -1) = false := by decide
    rw [hd]
    cases hv : Rt.vld n d with
    | false => rfl
    | true =>
      obtain ⟨hl, hg⟩ := Rt.vld_iff.1 hv
      obtain ⟨l1, l2, l3, l4⟩ := Rt.lim_iff.1 hl
      unfold tk at h
      by_cases hn : 0 ≤ n
      · by_cases hm : 1680 % d = 0
        · rw [if_neg (by simp only [not_or, Decidable.not_not]; exact ⟨by omega, hm, by omega, by omega, hg⟩)] at h
          have : 0 ≤ n * (1680 / d) := Int.mul_nonneg hn (Int.ediv_nonneg (by omega) (by omega))
          omega
        · rw [decide_eq_false hm]; simp
      · rw [decide_eq_false hn]; simp
  · have hdv : d ≤ 1680 := Int.le_of_dvd (by omega) (Int.dvd_of_emod_eq_zero h2)
    have hv : Rt.vld n d = true := Rt.vld_iff.2 ⟨Rt.lim_iff.2 ⟨by omega, by omega, by omega, by omega⟩, h5⟩
    have : 0 ≤ n * (1680 / d) := Int.mul_nonneg h3 (Int.ediv_nonneg (by omega) (by omega))
    rw [hv, decide_eq_true h3, decide_eq_true h2, h6, decide_eq_true this]
    rfl
theorem tk_val {n d : Int} (h : 0 ≤ tk n d) : 1 ≤ d ∧ d ≤ 1680 ∧ 0 ≤ n ∧ n ≤ 1000000000 ∧ tk n d = n * (1680 / d) := by
  rcases tk_cases n d with h0 | ⟨h1, h2, h3, h4, h5, h6⟩
  · omega
  · exact ⟨h1, Int.le_of_dvd (by omega) (Int.dvd_of_emod_eq_zero h2), h3, h4, h6⟩
theorem tk_zero {n d : Int} : tk n d = 0 ↔ n = 0 ∧ d = 1 := by
  constructor
  · intro h
    rcases tk_cases n d with h0 | ⟨h1, h2, h3, h4, h5, h6⟩
    · omega
    · have hdv : d ≤ 1680 := Int.le_of_dvd (by omega) (Int.dvd_of_emod_eq_zero h2)
      have hq : 1 ≤ 1680 / d := by
        rw [Int.le_ediv_iff_mul_le (by omega)]; omega
      rw [h6] at h
      have hn : n = 0 := by
        rcases Int.mul_eq_zero.1 h with h7 | h7
        · exact h7
        · omega
      subst hn
      rw [Int.gcd_zero_left] at h5
      exact ⟨rfl, by omega⟩
  · rintro ⟨rfl, rfl⟩
    decide
theorem tk_pos_n {n d : Int} (h : 0 ≤ tk n d) : 0 < n ↔ 1 ≤ tk n d := by
  obtain ⟨h1, h2, h3, h4, h5⟩ := tk_val h
  constructor
  · intro h0
    have hz : tk n d ≠ 0 := fun e => by have := (tk_zero.1 e).1; omega
    omega
  · intro h0
    rcases Int.lt_or_le 0 n with h6 | h6
    · exact h6
    · obtain rfl : n = 0 := by omega
      rw [h5] at h0
      simp at h0
end Mt

set_option maxHeartbeats 400000 in
theorem munits_any (n d : Int) (hd : 1 ≤ d) (h1 : -1000000000 ≤ n) (h2 : n ≤ 1000000000) (w : World) :
    Calls Try.prog 37 #[.agg #[.int .i64 n, .int .i64 d]] w fun e w' => e = .returned (.int .i64 (n * (1680 / d))) ∧ Below w.heap.size w w' := by
  have G0 := (Below.refl w.heap.size w).alloc (Nat.le_refl _) (.cells #[.int .i64 n, .int .i64 d] 24)
  have hd0 : ¬ d = 0 := by omega
  obtain ⟨q, hq⟩ : ∃ q, (1680 : Int) / d = q := ⟨_, rfl⟩
  have hqt : (1680 : Int).tdiv d = q := by rw [Int.tdiv_eq_ediv_of_nonneg (by omega), hq]
  have hq0 : 0 ≤ q := by rw [← hq]; exact Int.ediv_nonneg (by omega) (by omega)
  have hq1 : q ≤ 1680 := by rw [← hq]; exact Int.ediv_le_self _ (by omega)
  have hb := mul_in n q 1000000000 1680 h1 h2 (by omega) hq1
  obtain ⟨hm0, hm1⟩ := hb
  have hm0' : -1680000000000 ≤ n * q := by omega
  have hm1' : n * q ≤ 1680000000000 := by omega
  have HQ := Lib.hid hq
  rw [hq]
  clear hq hm0 hm1
  go_enter Try.func37, Try.ntmps37
  go_wp2_with fail
  have A2 : At2 (w.alloc (.cells #[.int .i64 n, .int .i64 d] 24)) w.heap.size n d := At2.new _ _ _ _
  generalize w.alloc (.cells #[.int .i64 n, .int .i64 d] 24) = w2 at *
  have x0 := fun x : Ext w2 => x.cell A2.c0
  have x1 := fun x : Ext w2 => x.cell A2.c1
  have hne := Ext.there w2
  refine Ext.region (by kernel_rfl) (by kernel_rfl) ?_
  repeat (go_big_quiet_step (fail))
  refine wpQuiet_nil ?_
  rintro _ ⟨xw, rfl⟩
  have G1 := G0.trans (xw.h.mono G0.size)
  clear x0 x1 hne
  generalize xw.w = w3 at *
  clear xw
  go_wp2_with fail
  go_ret
  exact ⟨rfl, G1⟩

theorem munits_is (n d t : Int) (h : Mt.tk n d = t) (h0 : 0 ≤ t) (w : World) :
    Calls Try.prog 37 #[.agg #[.int .i64 n, .int .i64 d]] w fun e w' => e = .returned (.int .i64 t) ∧ Below w.heap.size w w' := by
  obtain ⟨h1, h2, h3, h4, h5⟩ := Mt.tk_val (n := n) (d := d) (by omega)
  rw [← h, h5]
  exact munits_any n d h1 (by omega) h4 w

set_option maxHeartbeats 800000 in
theorem mduration_is (n d : Int) (f : Bool) (h : decide (0 ≤ Mt.tk n d) = f) (w : World) :
    Calls Try.prog 35 #[.agg #[.int .i64 n, .int .i64 d]] w fun e w' => e = .returned (.bool f) ∧ Below w.heap.size w w' := by
  have G0 := (Below.refl w.heap.size w).alloc (Nat.le_refl _) (.cells #[.int .i64 n, .int .i64 d] 24)
  have A0 : At2 (w.alloc (.cells #[.int .i64 n, .int .i64 d] 24)) w.heap.size n d := At2.new _ _ _ _
  rw [Mt.tk_dur] at h
  obtain ⟨v, hv⟩ : ∃ v, Rt.vld n d = v := ⟨_, rfl⟩
  rw [hv] at h
  have HV := Lib.hid hv
  cases v with
  | false =>
    rw [Bool.false_and, Bool.false_and] at h
    subst h
    clear hv
    go_enter Try.func35, Try.ntmps35
    go_wp2_with (first | (go_at_call 40; refine (valid_is n d false HV.out _).mono ?_; rintro e w2 ⟨rfl, hb⟩; have B := A0.below hb; obtain ⟨b0, b1⟩ := And.intro B.c0 B.c1; have G1 := G0.trans (hb.mono G0.size); clear hb) | fail)
    go_ret
    exact ⟨rfl, G1⟩
  | true =>
    obtain ⟨_, _, l3, l4⟩ := Rt.vld_lim hv
    rw [Bool.true_and] at h
    have hd0 : ¬ d = 0 := by omega
    clear hv
    by_cases hn : 0 ≤ n
    · rw [decide_eq_true hn, Bool.true_and] at h
      have hnb : n ≥ 0 := hn
      obtain ⟨m, hm⟩ : ∃ m, (1680 : Int) % d = m := ⟨_, rfl⟩
      have hmt : (1680 : Int).tmod d = m := by rw [Int.tmod_eq_emod_of_nonneg (by omega), hm]
      rw [hm] at h
      subst h
      clear hm
      go_enter Try.func35, Try.ntmps35
      go_wp2_with (first | (go_at_call 40; refine (valid_is n d true HV.out _).mono ?_; rintro e w2 ⟨rfl, hb⟩; have B := A0.below hb; obtain ⟨b0, b1⟩ := And.intro B.c0 B.c1; have G1 := G0.trans (hb.mono G0.size); clear hb) | fail)
      go_ret
      exact ⟨by first | rfl | (congr 2 <;> simp), G1⟩
    · rw [decide_eq_false hn, Bool.false_and] at h
      subst h
      have hnb : ¬ n ≥ 0 := hn
      go_enter Try.func35, Try.ntmps35
      go_wp2_with (first | (go_at_call 40; refine (valid_is n d true HV.out _).mono ?_; rintro e w2 ⟨rfl, hb⟩; have B := A0.below hb; obtain ⟨b0, b1⟩ := And.intro B.c0 B.c1; have G1 := G0.trans (hb.mono G0.size); clear hb) | fail)
      go_ret
      exact ⟨rfl, G1⟩

set_option maxHeartbeats 400000 in
theorem mquarters_is (u N D E : Int) (h : Rt.makeR u 1680 = (N, D, E)) (w : World) :
    Calls Try.prog 33 #[.int .i64 u] w fun e w' => e = .returned (.tuple #[.agg #[.int .i64 N, .int .i64 D], .int .i64 E]) ∧ Below w.heap.size w w' := by
  have G0 := (Below.refl w.heap.size w).alloc (Nat.le_refl _) (.cells #[.int .i64 0, .int .i64 0] 24)
  have V0 : Var2 (w.alloc (.cells #[.int .i64 0, .int .i64 0] 24)) w.heap.size 0 0 := Var2.new _ _ _ _
  have H := Lib.hid h
  clear h
  go_enter Try.func33, Try.ntmps33
  go_wp2_with (first | (go_at_call 47; refine (make_is u 1680 N D E H.out _).mono ?_; rintro e w2 ⟨rfl, hb⟩; have V := V0.below hb; obtain ⟨v0, v1, f0, f1⟩ := And.intro V.at2.c0 (And.intro V.at2.c1 (And.intro V.f0 V.f1)); have G1 := G0.trans (hb.mono G0.size); clear hb) | fail)
  refine bodyPost_ret (v := .tuple #[.agg #[.int .i64 N, .int .i64 D], .int .i64 E]) (by simp [results, Try.results33, go_sem, v0, v1]) rfl ⟨rfl, (G1.setCell (by simp <;> omega) _).setCell (by simp <;> omega) _⟩

set_option maxHeartbeats 400000 in
theorem mend_is (A : Option Addr) (len cap : Nat) (w : World) :
    Calls Try.prog 27 #[.slice A len cap] w fun e w' => e = .returned (.agg #[.int .i64 (len : Int), .int .i64 0, .int .i64 1]) ∧ Below w.heap.size w w' := by
  go_enter Try.func27, Try.ntmps27
  go_wp2_with fail
  refine bodyPost_ret (v := .agg #[.int .i64 (len : Int), .int .i64 0, .int .i64 1]) (by simp [results, Try.results27, go_sem]) rfl ⟨rfl, (Below.refl w.heap.size w).alloc (Nat.le_refl _) _⟩
end Go.Proofs.Ythamkigdpgajaaa
