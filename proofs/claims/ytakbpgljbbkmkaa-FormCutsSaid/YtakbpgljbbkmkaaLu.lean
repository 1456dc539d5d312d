/- The walk of the laws' usable; visits come once, and a bar's with rising passes. -/
import Derived.Test.YtakbpgljbbkmkaaHc
namespace Go.Proofs.Ytakbpgljbbkmkaa
open Go.RowKit

namespace Fo
theorem vis_le : ∀ (l : List Int) (x : V2), x ∈ vis l → 1 ≤ x.p ∧ x.p ≤ (l.count x.b : Int) := fun l => by
  rw [← List.reverse_reverse l]
  generalize l.reverse = m
  induction m with
  | nil => intro x hx; cases hx
  | cons b m ih =>
    intro x hx
    rw [List.reverse_cons, vis_snoc] at hx
    rw [List.reverse_cons, List.count_append]
    rcases List.mem_append.1 hx with hx | hx
    · have := ih x hx
      omega
    · rw [List.mem_singleton.1 hx]
      simp
      omega
theorem vis_rise : ∀ l : List Int, (vis l).Pairwise fun x y => x.b = y.b → x.p < y.p := fun l => by
  rw [← List.reverse_reverse l]
  generalize l.reverse = m
  induction m with
  | nil => exact List.Pairwise.nil
  | cons b m ih =>
    rw [List.reverse_cons, vis_snoc, List.pairwise_append]
    refine ⟨ih, List.pairwise_singleton _ _, fun x hx y hy e => ?_⟩
    rw [List.mem_singleton.1 hy] at e ⊢
    have := vis_le _ x hx
    have h2 : x.b = b := e
    rw [h2] at this
    show x.p < (List.count b m.reverse : Int) + 1
    omega
theorem unf_rise (f : Fm) : (unf f).Pairwise fun x y => x.b = y.b → x.p < y.p := (vis_rise (whl f)).filter _
theorem unf_once {f : Fm} {i : Nat} (h : i < (unf f).length) : vix (unf f) (atV (unf f) i) = i := by
  refine vix_first h rfl (fun k hk e => ?_)
  have h1 := List.pairwise_iff_getElem.1 (unf_rise f) k i (by omega) h hk
  rw [← atV_eq (by omega : k < (unf f).length), ← atV_eq h, e] at h1
  have := h1 rfl
  omega
end Fo
set_option maxHeartbeats 1600000 in
theorem lusable_is (h : FH) (f : Fo.Fm) (r : Bool) (hr : r = true ↔ fewH h ∧ Fo.Val f) (hcap : h.cl ≤ h.cc) (w : World) (hS : SlF w h f) :
    Calls Try.prog 25 #[.agg #[.int .i64 h.n, .slice h.R h.rl h.rc, .slice h.E h.el h.ec, .int .i64 h.ja, .int .i64 h.jt, .int .i64 h.jf, .slice h.C h.cl h.cc]] w fun e w' => e = .returned (.bool r) ∧ Below w.heap.size w w' := by
  obtain ⟨b1, hb1⟩ : ∃ b : Bool, b = true ↔ fewH h := ⟨@decide _ (Classical.propDecidable _), @decide_eq_true_iff _ (Classical.propDecidable _)⟩
  obtain ⟨b2, hb2⟩ : ∃ b : Bool, b = true ↔ Fo.Val f := ⟨@decide _ (Classical.propDecidable _), @decide_eq_true_iff _ (Classical.propDecidable _)⟩
  obtain rfl : r = (b1 && b2) := by rw [Bool.eq_iff_iff, hr, Bool.and_eq_true, hb1, hb2]
  have HB1 := Lib.hid hb1; have HB2 := Lib.hid hb2; have HCAP := Lib.hid hcap
  have Q := FB.new w h
  have B := (Below.refl w.heap.size w).alloc (Nat.le_refl _) (.cells #[.int .i64 h.n, .slice h.R h.rl h.rc, .slice h.E h.el h.ec, .int .i64 h.ja, .int .i64 h.jt, .int .i64 h.jf, .slice h.C h.cl h.cc] 28)
  have HS := Lib.hid (hS.alloc (.cells #[.int .i64 h.n, .slice h.R h.rl h.rc, .slice h.E h.el h.ec, .int .i64 h.ja, .int .i64 h.jt, .int .i64 h.jf, .slice h.C h.cl h.cc] 28))
  clear hr hb1 hb2 hS hcap
  go_enter Try.func25, Try.ntmps25
  go_wp2_with fail
  refine (rfew_is h b1 HB1.out _).mono ?_; rintro e w2 ⟨rfl, hb⟩
  replace Q := Q.below hb
  have HS2 := Lib.hid (HS.out.below hb)
  replace B := B.trans (hb.mono B.size)
  clear hb
  cases b1 with
  | false =>
    go_wp2_with fail
    go_ret
    exact ⟨rfl, B⟩
  | true =>
    have q0 := Q.c0; have q1 := Q.c1; have q2 := Q.c2; have q3 := Q.c3; have q4 := Q.c4; have q5 := Q.c5; have q6 := Q.c6; have ql := Q.lt
    go_wp2_with fail
    refine (rValid_is h f b2 HB2.out HCAP.out _ HS2.out).mono ?_; rintro e w3 ⟨rfl, hb⟩
    replace B := B.trans (hb.mono B.size)
    clear hb q0 q1 q2 q3 q4 q5 q6 ql
    go_wp2_with fail
    go_ret
    exact ⟨rfl, B⟩
end Go.Proofs.Ytakbpgljbbkmkaa
