/- The walks of the reference's gcd, Ticks, Of, Duration. -/
import Derived.Test.YthamkigdpgajaaaSb
import Derived.Test.YthamkigdpgajaaaTail
import Derived.LoopTactic
namespace Go.Proofs.Ythamkigdpgajaaa
open Go.RowKit

set_option maxHeartbeats 400000 in
theorem kgcd_is (a b g : Nat) (h : Nat.gcd a b = g) (ha : a ≤ 1000000000000000) (hb : b ≤ 1000000000000000) (w : World) :
    Calls Try.prog 44 #[.int .i64 (a : Int), .int .i64 (b : Int)] w fun e w' => e = .returned (.int .i64 (g : Int)) ∧ w = w' := by
  have HG := Lib.hid h
  clear h
  go_enter Try.func44, Try.ntmps44
  go_wp2_with fail
  go_loopw [0, 1] (fun s0 s1 wr => ∃ (x y : Nat) (p q : Int), p = x ∧ q = y ∧ s0 = .int .i64 p ∧ s1 = .int .i64 q ∧ x ≤ 1000000000000000 ∧ y ≤ 1000000000000000 ∧ Hid (Nat.gcd x y = g) ∧ wr = w) (fun _ s1 _ => (intOf s1).toNat)
  case atStart => exact ⟨a, b, _, _, rfl, rfl, rfl, rfl, ha, hb, HG, rfl⟩
  case round =>
    obtain ⟨x, y, p, q, hp, hq, rfl, rfl, hx, hy, HE, rfl⟩ := hrel
    by_cases h0 : y = 0
    · subst h0
      obtain rfl : q = 0 := hq
      have hxg : x = g := by have := HE.out; rwa [Nat.gcd_zero_right] at this
      subst hxg
      obtain rfl := hp
      go_wp2_with fail
      go_ret
      exact ⟨rfl, rfl⟩
    · obtain ⟨r, hr⟩ : ∃ r, x % y = r := ⟨_, rfl⟩
      have hrm : p.tmod q = (r : Int) := by rw [hp, hq, ← hr]; rfl
      have hre : p % q = (r : Int) := by rw [hp, hq, ← hr]; rfl
      have hry : r < y := by rw [← hr]; exact Nat.mod_lt _ (by omega)
      have HE2 : Hid (Nat.gcd y r = g) := Lib.hid (by rw [← hr, ← HE.out, Nat.gcd_comm x y, Nat.gcd_rec y x, Nat.gcd_comm])
      have hqz : (q != 0) = true := by simp; omega
      have hqz2 : ¬ q = 0 := by omega
      have hq0 : 0 ≤ q := by omega
      have hp0 : 0 ≤ p := by omega
      have HQ := Lib.hid hq
      have hyq : (r : Int) < q := by omega
      clear hp hq hr HE h0
      go_wp2_with fail
      go_roundw
      case rel => exact ⟨y, r, q, r, HQ.out, rfl, rfl, rfl, hy, by omega, HE2, (by first | rfl | trivial)⟩
      case measure => simp only [intOf]; omega

set_option maxHeartbeats 800000 in
theorem kticks_is (n d t : Int) (h : Mt.tk n d = t) (w : World) :
    Calls Try.prog 31 #[.agg #[.int .i64 n, .int .i64 d]] w fun e w' => e = .returned (.int .i64 t) ∧ Below w.heap.size w w' := by
  have G0 := (Below.refl w.heap.size w).alloc (Nat.le_refl _) (.cells #[.int .i64 n, .int .i64 d] 24)
  unfold Mt.tk at h
  by_cases h1 : d < 1
  · rw [if_pos (.inl h1)] at h
    subst h
    go_enter Try.func31, Try.ntmps31
    go_wp2_with fail
    go_ret
    exact ⟨rfl, G0⟩
  have hd0 : ¬ d = 0 := by omega
  have hdm : (1680 : Int).tmod d = 1680 % d := Int.tmod_eq_emod_of_nonneg (by omega)
  by_cases h2 : 1680 % d ≠ 0
  · rw [if_pos (.inr (.inl h2))] at h
    subst h
    have h2' : (1680 % d != 0) = true := by simpa using h2
    go_enter Try.func31, Try.ntmps31
    go_wp2_with fail
    go_ret
    exact ⟨rfl, G0⟩
  have h2' : (1680 % d != 0) = false := by simpa using h2
  by_cases h3 : n < 0
  · rw [if_pos (.inr (.inr (.inl h3)))] at h
    subst h
    go_enter Try.func31, Try.ntmps31
    go_wp2_with fail
    go_ret
    exact ⟨rfl, G0⟩
  by_cases h4 : 1000000000 < n
  · rw [if_pos (.inr (.inr (.inr (.inl h4))))] at h
    subst h
    go_enter Try.func31, Try.ntmps31
    go_wp2_with fail
    go_ret
    exact ⟨rfl, G0⟩
  have hdv : d ∣ 1680 := Int.dvd_of_emod_eq_zero (by simpa using h2)
  have hd2 : d ≤ 1680 := Int.le_of_dvd (by omega) hdv
  obtain ⟨a, ha⟩ := Int.eq_ofNat_of_zero_le (show 0 ≤ n by omega)
  obtain ⟨b, hb⟩ := Int.eq_ofNat_of_zero_le (show 0 ≤ d by omega)
  obtain ⟨g, hg⟩ : ∃ g, Nat.gcd a b = g := ⟨_, rfl⟩
  have hgg : Int.gcd n d = g := by rw [ha, hb]; simpa [Int.gcd] using hg
  have HC : Hid (∀ w', Calls Try.prog 44 #[.int .i64 n, .int .i64 d] w' fun e w'' => e = .returned (.int .i64 (g : Int)) ∧ w' = w'') := Lib.hid (fun w' => by rw [ha, hb]; exact kgcd_is a b g hg (by omega) (by omega) w')
  rw [hgg] at h
  clear ha hb hg hgg hdv
  by_cases h5 : g ≠ 1
  · rw [if_pos (.inr (.inr (.inr (.inr h5))))] at h
    subst h
    have h5' : ((g : Int) != 1) = true := by simp; omega
    clear h5
    go_enter Try.func31, Try.ntmps31
    go_wp2_with (first | (go_at_call 44; refine (HC.out _).mono ?_; rintro e w2 ⟨rfl, rfl⟩) | fail)
    go_ret
    exact ⟨rfl, G0⟩
  · rw [if_neg (by simp only [not_or, Decidable.not_not]; exact ⟨h1, by simpa using h2, h3, h4, by simpa using h5⟩)] at h
    have h5' : ((g : Int) != 1) = false := by simp; omega
    obtain ⟨q, hq⟩ : ∃ q, (1680 : Int) / d = q := ⟨_, rfl⟩
    have hqt : (1680 : Int).tdiv d = q := by rw [Int.tdiv_eq_ediv_of_nonneg (by omega), hq]
    have hq0 : 0 ≤ q := by rw [← hq]; exact Int.ediv_nonneg (by omega) (by omega)
    have hq1 : q ≤ 1680 := by rw [← hq]; exact Int.ediv_le_self _ (by omega)
    rw [hq] at h
    have hm0 : 0 ≤ n * q := Int.mul_nonneg (by omega) hq0
    have hm1 : n * q ≤ 1000000000 * 1680 := Int.mul_le_mul (by omega) hq1 hq0 (by omega)
    have HT := Lib.hid h
    clear h5 h hq
    go_enter Try.func31, Try.ntmps31
    go_wp2_with (first | (go_at_call 44; refine (HC.out _).mono ?_; rintro e w2 ⟨rfl, rfl⟩) | fail)
    have A2 : At2 (w.alloc (.cells #[.int .i64 n, .int .i64 d] 24)) w.heap.size n d := At2.new _ _ _ _
    generalize w.alloc (.cells #[.int .i64 n, .int .i64 d] 24) = w2 at *
    have x0 := fun x : Ext w2 => x.cell A2.c0
    have x1 := fun x : Ext w2 => x.cell A2.c1
    have hne := Ext.there w2
    refine Ext.region (by kernel_rfl) (by kernel_rfl) ?_
    repeat (go_big_quiet_step (fail))
    refine wpQuiet_nil ?_
    rintro _ ⟨xw, rfl⟩
    have G1 := G0.trans (xw.h.mono G0.size)
    clear x0 x1 hne
    generalize xw.w = w3 at *
    clear xw
    go_wp2_with fail
    go_ret
    exact ⟨by rw [← HT.out]; rfl, G1⟩
end Go.Proofs.Ythamkigdpgajaaa
