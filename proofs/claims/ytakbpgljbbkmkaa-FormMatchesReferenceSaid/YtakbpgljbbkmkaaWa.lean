/- The walks of limit.Between and of reprise's isWithin, isCut. -/
import Derived.Test.YtakbpgljbbkmkaaVh
namespace Go.Proofs.Ytakbpgljbbkmkaa
open Go.RowKit

theorem lbetween_is (x lo hi : Int) (r : Bool) (hr : r = true ↔ lo ≤ x ∧ x ≤ hi) (w : World) :
    Calls Try.prog 35 #[.int .i64 x, .int .i64 lo, .int .i64 hi] w fun e w' => e = .returned (.bool r) ∧ w' = w := by
  by_cases q0 : lo ≤ x
  case neg =>
    obtain rfl : r = false := by
      cases r with
      | false => rfl
      | true => exact absurd (hr.1 rfl).1 q0
    clear hr
    go_enter Try.func35, Try.ntmps35
    go_wp2_with fail
    go_ret
    exact ⟨rfl, rfl⟩
  by_cases q1 : x ≤ hi
  case neg =>
    obtain rfl : r = false := by
      cases r with
      | false => rfl
      | true => exact absurd (hr.1 rfl).2 q1
    clear hr
    go_enter Try.func35, Try.ntmps35
    go_wp2_with fail
    go_ret
    exact ⟨rfl, rfl⟩
  obtain rfl : r = true := hr.2 ⟨q0, q1⟩
  clear hr
  go_enter Try.func35, Try.ntmps35
  go_wp2_with fail
  go_ret
  exact ⟨rfl, rfl⟩
/-- Bars that are all in others. -/
def Fo.iw (a b lo hi : Int) : Prop := lo ≤ a ∧ a < b ∧ b ≤ hi
instance (a b lo hi : Int) : Decidable (Fo.iw a b lo hi) := by unfold Fo.iw; infer_instance
theorem wwithin_is (a b lo hi : Int) (r : Bool) (hr : r = true ↔ Fo.iw a b lo hi) (w : World) :
    Calls Try.prog 58 #[.agg #[.int .i64 a, .int .i64 b], .agg #[.int .i64 lo, .int .i64 hi]] w fun e w' => e = .returned (.bool r) ∧ Below w.heap.size w w' := by
  have B := ((Below.refl w.heap.size w).alloc (Nat.le_refl _) (.cells #[.int .i64 a, .int .i64 b] 80)).alloc (by simp) (.cells #[.int .i64 lo, .int .i64 hi] 80)
  unfold Fo.iw at hr
  by_cases q0 : lo ≤ a
  case neg =>
    obtain rfl : r = false := by
      cases r with
      | false => rfl
      | true => exact absurd (hr.1 rfl).1 q0
    clear hr
    go_enter Try.func58, Try.ntmps58
    go_wp2_with fail
    go_ret
    exact ⟨rfl, B⟩
  by_cases q1 : a < b
  case neg =>
    obtain rfl : r = false := by
      cases r with
      | false => rfl
      | true => exact absurd (hr.1 rfl).2.1 q1
    clear hr
    go_enter Try.func58, Try.ntmps58
    go_wp2_with fail
    go_ret
    exact ⟨rfl, B⟩
  by_cases q2 : b ≤ hi
  case neg =>
    obtain rfl : r = false := by
      cases r with
      | false => rfl
      | true => exact absurd (hr.1 rfl).2.2 q2
    clear hr
    go_enter Try.func58, Try.ntmps58
    go_wp2_with fail
    go_ret
    exact ⟨rfl, B⟩
  obtain rfl : r = true := hr.2 ⟨q0, q1, q2⟩
  clear hr
  go_enter Try.func58, Try.ntmps58
  go_wp2_with fail
  go_ret
  exact ⟨rfl, B⟩
set_option maxHeartbeats 800000 in
theorem wcut_is (h : FH) (c : Fo.T3) (r : Bool) (hr : r = true ↔ Fo.okC h.n c) (w : World) :
    Calls Try.prog 47 #[.agg #[.int .i64 h.n, .slice h.R h.rl h.rc, .slice h.E h.el h.ec, .int .i64 h.ja, .int .i64 h.jt, .int .i64 h.jf, .slice h.C h.cl h.cc], .agg #[.int .i64 c.a, .int .i64 c.b, .int .i64 c.c]] w fun e w' => e = .returned (.bool r) ∧ Below w.heap.size w w' := by
  have B := ((Below.refl w.heap.size w).alloc (Nat.le_refl _) (.cells #[.int .i64 h.n, .slice h.R h.rl h.rc, .slice h.E h.el h.ec, .int .i64 h.ja, .int .i64 h.jt, .int .i64 h.jf, .slice h.C h.cl h.cc] 28)).alloc (by simp) (.cells #[.int .i64 c.a, .int .i64 c.b, .int .i64 c.c] 32)
  obtain ⟨g, hg⟩ : ∃ g : Bool, g = true ↔ Fo.iw c.a c.b 0 h.n := ⟨decide _, decide_eq_true_iff⟩
  obtain ⟨k, hk⟩ : ∃ k : Bool, k = true ↔ 0 ≤ c.c ∧ c.c ≤ 20 := ⟨decide _, decide_eq_true_iff⟩
  obtain rfl : r = (g && k) := by
    rw [Bool.eq_iff_iff, hr, Bool.and_eq_true, hg, hk]
    unfold Fo.okC Fo.iw
    constructor
    · rintro ⟨a, b, c, d, e⟩; exact ⟨⟨a, b, c⟩, d, e⟩
    · rintro ⟨⟨a, b, c⟩, d, e⟩; exact ⟨a, b, c, d, e⟩
  have HG := Lib.hid hg; have HK := Lib.hid hk
  clear hr hg hk
  go_enter Try.func47, Try.ntmps47
  go_wp2_with fail
  refine (wwithin_is c.a c.b 0 h.n g HG.out _).mono ?_; rintro e w2 ⟨rfl, hb⟩
  have B2 := B.trans (hb.mono (by simp; omega))
  have k2 := keep_cell (p := ⟨w.heap.size + 1, 2, none⟩) (v := .int .i64 c.c) (by go_simp) hb
  clear hb B
  cases g with
  | false =>
    go_wp2_with fail
    go_ret
    exact ⟨rfl, B2⟩
  | true =>
    go_wp2_with fail
    refine (lbetween_is c.c 0 20 k HK.out _).mono ?_; rintro e w3 ⟨rfl, rfl⟩
    go_wp2_with fail
    go_ret
    exact ⟨rfl, B2⟩
end Go.Proofs.Ytakbpgljbbkmkaa
