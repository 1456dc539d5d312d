/- The walk of reprise's Valid. -/
import Derived.Test.YtakbpgljbbkmkaaWi
namespace Go.Proofs.Ytakbpgljbbkmkaa
open Go.RowKit

theorem okJ_iff {w : World} {h : FH} {f : Fo.Fm} (hS : SlF w h f) : okJH h f.rs ↔ Fo.okJ f := by unfold okJH Fo.okJ; rw [hS.ja, hS.jt, hS.jf, hS.n]
theorem Fo.Val.ok {f : Fo.Fm} (V : Fo.Val f) : Fo.Ok f := ⟨V.n, V.rl, V.rs, V.el, V.es, V.j⟩
set_option maxRecDepth 100000 in
set_option maxHeartbeats 6400000 in
theorem wValid_is (h : FH) (f : Fo.Fm) (r : Bool) (hr : r = true ↔ Fo.Val f) (hwf : ∀ c ∈ f.cs, Fo.wf3 c) (w : World) (hS : SlF w h f) :
    Calls Try.prog 13 #[.agg #[.int .i64 h.n, .slice h.R h.rl h.rc, .slice h.E h.el h.ec, .int .i64 h.ja, .int .i64 h.jt, .int .i64 h.jf, .slice h.C h.cl h.cc]] w fun e w' => e = .returned (.bool r) ∧ Below w.heap.size w w' := by
  have HVL := Lib.hid hr; have HWF := Lib.hid hwf
  have Q1 := FB.new w h
  have B1 := (Below.refl w.heap.size w).alloc (Nat.le_refl _) (.cells #[.int .i64 h.n, .slice h.R h.rl h.rc, .slice h.E h.el h.ec, .int .i64 h.ja, .int .i64 h.jt, .int .i64 h.jf, .slice h.C h.cl h.cc] 28)
  have HS := Lib.hid hS
  obtain ⟨b1, hb1⟩ : ∃ b : Bool, b = true ↔ 1 ≤ h.n ∧ h.n ≤ 4000 := ⟨decide _, decide_eq_true_iff⟩
  have HB1 := Lib.hid hb1
  clear hr hwf hS hb1
  go_enter Try.func13, Try.ntmps13
  go_wp2_with fail
  obtain ⟨W1, hW1⟩ : ∃ W1, w.alloc (.cells #[.int .i64 h.n, .slice h.R h.rl h.rc, .slice h.E h.el h.ec, .int .i64 h.ja, .int .i64 h.jt, .int .i64 h.jf, .slice h.C h.cl h.cc] 28) = W1 := ⟨_, rfl⟩
  rw [hW1] at Q1 B1 ⊢
  clear hW1
  refine (lbetween_is h.n 1 4000 b1 HB1.out _).mono ?_; rintro e w2 ⟨rfl, rfl⟩
  cases b1 with
  | false =>
    obtain rfl : r = false := by
      cases r with
      | false => rfl
      | true => have h1 := (HVL.out.1 rfl).n; rw [HS.out.n] at h1; exact absurd (HB1.out.2 h1) (by simp)
    go_wp2_with fail
    go_ret
    exact ⟨rfl, B1⟩
  | true =>
  have H1 := Lib.hid (HB1.out.1 rfl)
  obtain ⟨b2, hb2⟩ : ∃ b : Bool, b = true ↔ f.rs.length ≤ 100 ∧ Fo.chR h.n 0 f.rs := ⟨@decide _ (Classical.propDecidable _), @decide_eq_true_iff _ (Classical.propDecidable _)⟩
  have HB2 := Lib.hid hb2
  clear hb2
  have q0 := Q1.c0; have q1 := Q1.c1; have q2 := Q1.c2; have q3 := Q1.c3; have q4 := Q1.c4; have q5 := Q1.c5; have q6 := Q1.c6; have ql := Q1.lt
  go_wp2_with fail
  refine (wrepeats_is h f b2 HB2.out _ (HS.out.below B1)).mono ?_; rintro e w3 ⟨rfl, hb⟩
  have Q3 := Q1.below hb
  have B3 := B1.trans (hb.mono B1.size)
  clear hb Q1 B1 q0 q1 q2 q3 q4 q5 q6 ql
  cases b2 with
  | false =>
    obtain rfl : r = false := by
      cases r with
      | false => rfl
      | true => have h1 := HVL.out.1 rfl; exact absurd (HB2.out.2 ⟨h1.rl, by rw [← HS.out.n]; exact h1.rs⟩) (by simp)
    go_wp2_with fail
    go_ret
    exact ⟨rfl, B3⟩
  | true =>
  have H2 := Lib.hid (HB2.out.1 rfl)
  have HRL : Hid (h.rl ≤ 100) := Lib.hid (by rw [← HS.out.rl]; exact H2.out.1)
  obtain ⟨b3, hb3⟩ : ∃ b : Bool, b = true ↔ f.es.length ≤ 100 ∧ Fo.chE f.rs 0 f.es := ⟨@decide _ (Classical.propDecidable _), @decide_eq_true_iff _ (Classical.propDecidable _)⟩
  have HB3 := Lib.hid hb3
  clear hb3
  have q0 := Q3.c0; have q1 := Q3.c1; have q2 := Q3.c2; have q3 := Q3.c3; have q4 := Q3.c4; have q5 := Q3.c5; have q6 := Q3.c6; have ql := Q3.lt
  go_wp2_with fail
  refine (wendings_is h f b3 HB3.out (fun x hx => (Fo.chR_all (Int.le_refl 0) H2.out.2 x hx).2.2.2.1) HRL.out _ (HS.out.below B3)).mono ?_; rintro e w4 ⟨rfl, hb⟩
  have Q4 := Q3.below hb
  have B4 := B3.trans (hb.mono B3.size)
  clear hb Q3 B3 q0 q1 q2 q3 q4 q5 q6 ql
  cases b3 with
  | false =>
    obtain rfl : r = false := by
      cases r with
      | false => rfl
      | true => have h1 := HVL.out.1 rfl; exact absurd (HB3.out.2 ⟨h1.el, h1.es⟩) (by simp)
    go_wp2_with fail
    go_ret
    exact ⟨rfl, B4⟩
  | true =>
  have H3 := Lib.hid (HB3.out.1 rfl)
  obtain ⟨b4, hb4⟩ : ∃ b : Bool, b = true ↔ okJH h f.rs := ⟨@decide _ (Classical.propDecidable _), @decide_eq_true_iff _ (Classical.propDecidable _)⟩
  have HB4 := Lib.hid hb4
  clear hb4
  have q0 := Q4.c0; have q1 := Q4.c1; have q2 := Q4.c2; have q3 := Q4.c3; have q4 := Q4.c4; have q5 := Q4.c5; have q6 := Q4.c6; have ql := Q4.lt
  go_wp2_with fail
  refine (wjump_is h f b4 HB4.out HRL.out _ (HS.out.below B4)).mono ?_; rintro e w5 ⟨rfl, hb⟩
  have Q5 := Q4.below hb
  have B5 := B4.trans (hb.mono B4.size)
  clear hb Q4 B4 q0 q1 q2 q3 q4 q5 q6 ql
  cases b4 with
  | false =>
    obtain rfl : r = false := by
      cases r with
      | false => rfl
      | true => have h1 := HVL.out.1 rfl; exact absurd (HB4.out.2 ((okJ_iff HS.out).2 h1.j)) (by simp)
    go_wp2_with fail
    go_ret
    exact ⟨rfl, B5⟩
  | true =>
  have H4 := Lib.hid (HB4.out.1 rfl)
  have HOK : Hid (Fo.Ok f) := Lib.hid ⟨by rw [HS.out.n]; exact H1.out, H2.out.1, by rw [HS.out.n]; exact H2.out.2, H3.out.1, H3.out.2, (okJ_iff HS.out).1 H4.out⟩
  obtain ⟨b5, hb5⟩ : ∃ b : Bool, b = true ↔ f.cs.length ≤ 100 ∧ (∀ c ∈ f.cs, Fo.okC h.n c) ∧ f.cs.Nodup := ⟨@decide _ (Classical.propDecidable _), @decide_eq_true_iff _ (Classical.propDecidable _)⟩
  have HB5 := Lib.hid hb5
  clear hb5
  have q0 := Q5.c0; have q1 := Q5.c1; have q2 := Q5.c2; have q3 := Q5.c3; have q4 := Q5.c4; have q5 := Q5.c5; have q6 := Q5.c6; have ql := Q5.lt
  go_wp2_with fail
  refine (wcuts_is h f b5 HB5.out HWF.out _ (HS.out.below B5)).mono ?_; rintro e w6 ⟨rfl, hb⟩
  have Q6 := Q5.below hb
  have B6 := B5.trans (hb.mono B5.size)
  clear hb Q5 B5 q0 q1 q2 q3 q4 q5 q6 ql
  cases b5 with
  | false =>
    obtain rfl : r = false := by
      cases r with
      | false => rfl
      | true => have h1 := HVL.out.1 rfl; exact absurd (HB5.out.2 ⟨h1.cl, by rw [← HS.out.n]; exact h1.cs, h1.cd⟩) (by simp)
    go_wp2_with fail
    go_ret
    exact ⟨rfl, B6⟩
  | true =>
  have H5 := Lib.hid (HB5.out.1 rfl)
  have q0 := Q6.c0; have q1 := Q6.c1; have q2 := Q6.c2; have q3 := Q6.c3; have q4 := Q6.c4; have q5 := Q6.c5; have q6 := Q6.c6; have ql := Q6.lt
  go_wp2_with fail
  refine (wsize_is h f HOK.out _ (HS.out.below B6)).mono ?_; rintro e w7 ⟨rfl, hb⟩
  have B7 := B6.trans (hb.mono B6.size)
  clear hb Q6 B6 q0 q1 q2 q3 q4 q5 q6 ql
  obtain ⟨m, hm⟩ : ∃ m, (Fo.whl f).length = m := ⟨_, rfl⟩
  have HM := Lib.hid hm
  rw [hm]
  clear hm
  by_cases h2 : m ≤ 20000
  case pos =>
    obtain rfl : r = true := HVL.out.2 ⟨HOK.out.n, HOK.out.rl, HOK.out.rs, HOK.out.el, HOK.out.es, HOK.out.j, H5.out.1, by rw [HS.out.n]; exact H5.out.2.1, H5.out.2.2, by rw [HM.out]; exact h2⟩
    have h3 : decide ((m : Int) ≤ 20000) = true := decide_eq_true (by omega)
    go_wp2_with fail
    go_ret
    exact ⟨rfl, B7⟩
  case neg =>
    obtain rfl : r = false := by
      cases r with
      | false => rfl
      | true => have h1 := (HVL.out.1 rfl).most; rw [HM.out] at h1; exact absurd h1 h2
    have h3 : decide ((m : Int) ≤ 20000) = false := decide_eq_false (by omega)
    go_wp2_with fail
    go_ret
    exact ⟨rfl, B7⟩
end Go.Proofs.Ytakbpgljbbkmkaa
