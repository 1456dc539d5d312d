/- The walks of the reference's endings, jump. -/
import Derived.Test.YtakbpgljbbkmkaaVd
namespace Go.Proofs.Ytakbpgljbbkmkaa
open Go.RowKit

set_option maxHeartbeats 3200000 in
theorem rendings_is (h : FH) (f : Fo.Fm) (r : Bool) (hr : r = true ↔ f.es.length ≤ 100 ∧ Fo.chE f.rs 0 f.es) (hmax : h.rl ≤ 100) (w : World) (hS : SlF w h f) :
    Calls Try.prog 42 #[.agg #[.int .i64 h.n, .slice h.R h.rl h.rc, .slice h.E h.el h.ec, .int .i64 h.ja, .int .i64 h.jt, .int .i64 h.jf, .slice h.C h.cl h.cc]] w fun e w' => e = .returned (.bool r) ∧ Below w.heap.size w w' := by
  have B := (Below.refl w.heap.size w).alloc (Nat.le_refl _) (.cells #[.int .i64 h.n, .slice h.R h.rl h.rc, .slice h.E h.el h.ec, .int .i64 h.ja, .int .i64 h.jt, .int .i64 h.jf, .slice h.C h.cl h.cc] 28)
  have Q := FB.new w h
  by_cases h100 : h.el ≤ 100
  case neg =>
    obtain rfl : r = false := by
      cases r with
      | false => rfl
      | true => exact absurd (hr.1 rfl).1 (by rw [hS.el]; exact h100)
    have h1 : (h.el : Int) > 100 := by omega
    clear hr hS h100 Q
    go_enter Try.func42, Try.ntmps42
    go_wp2_with fail
    go_ret
    exact ⟨rfl, B⟩
  have HF : Hid (r = true ↔ Fo.chE f.rs 0 f.es) := Lib.hid (hr.trans ⟨fun h => h.2, fun k => ⟨by rw [hS.el]; exact h100, k⟩⟩)
  have HN := Lib.hid hS.el; have HL := Lib.hid hS.se; have HRL := Lib.hid hS.rl; have HRS := Lib.hid hS.sr; have HMX := Lib.hid hmax
  have h1 : ¬ (h.el : Int) > 100 := by omega
  have h2 : (h.el : Int) ≤ 100 := by omega
  clear hr hS hmax
  go_enter Try.func42, Try.ntmps42
  go_wp2_with fail
  obtain ⟨W1, hW1⟩ : ∃ W1, w.alloc (.cells #[.int .i64 h.n, .slice h.R h.rl h.rc, .slice h.E h.el h.ec, .int .i64 h.ja, .int .i64 h.jt, .int .i64 h.jf, .slice h.C h.cl h.cc] 28) = W1 := ⟨_, rfl⟩
  rw [hW1] at B Q ⊢
  clear hW1
  have HQ := Lib.hid Q; have HB := Lib.hid B
  clear Q B
  go_loopw [3, 4] (fun s3 s4 wr => ∃ (i : Nat) (last : Int), i ≤ h.el ∧ s4 = .int .i64 (i : Int) ∧ s3 = .int .i64 last ∧ Hid (Fo.chE f.rs 0 f.es ↔ Fo.chE f.rs last (f.es.drop i)) ∧ Below W1.heap.size W1 wr) (fun _ s4 _ => h.el - (intOf s4).toNat)
  case atStart => exact ⟨0, 0, Nat.zero_le _, rfl, rfl, Lib.hid (by rw [List.drop_zero]), Below.refl _ _⟩
  case round =>
    obtain ⟨i, last, hi, rfl, rfl, HJ, hR⟩ := hrel
    have Q := HQ.out.below hR
    have q_1 := Q.c1; have q_2 := Q.c2; have ql := Q.lt
    by_cases hlt : i < h.el
    · have hil : i < f.es.length := by rw [HN.out]; exact hlt
      obtain ⟨b, off, hRe, hb, hc⟩ := HL.out (by omega)
      have X := (hc i hil).below (HB.out.trans (hR.mono HB.out.size)) hb
      obtain ⟨x, hx⟩ : ∃ x, Fo.at3 f.es i = x := ⟨_, rfl⟩
      rw [hx] at X
      have hd := Fo.drop_at hil
      rw [hx] at hd
      replace HJ : Hid (Fo.chE f.rs 0 f.es ↔ (last ≤ x.a ∧ x.a < x.b ∧ Fo.ins f.rs x.a x.b ∧ 1 ≤ x.c ∧ x.c ≤ 9) ∧ Fo.chE f.rs x.b (f.es.drop (i + 1))) := Lib.hid (by have h := HJ.out; rw [hd] at h; exact h)
      obtain ⟨c0, c1, c2⟩ := X
      have hi1 : (i : Int) < (h.el : Int) := by omega
      have hR2 := hR.alloc hR.size (.cells #[.int .i64 x.a, .int .i64 x.b, .int .i64 x.c] 73)
      rw [hRe] at q_2
      clear hc hx hil hd hb hRe
      by_cases q0 : x.a < last
      case pos =>
        obtain rfl : r = false := by
          cases r with
          | false => rfl
          | true => have h := (HJ.out.1 (HF.out.1 rfl)).1; omega
        go_wp2_with fail
        go_ret
        exact ⟨rfl, HB.out.trans (hR2.mono HB.out.size)⟩
      by_cases q1 : x.b ≤ x.a
      case pos =>
        obtain rfl : r = false := by
          cases r with
          | false => rfl
          | true => have h := (HJ.out.1 (HF.out.1 rfl)).1; omega
        go_wp2_with fail
        go_ret
        exact ⟨rfl, HB.out.trans (hR2.mono HB.out.size)⟩
      by_cases q2 : Fo.ins f.rs x.a x.b
      case neg =>
        have HGI : Hid (¬ Fo.ins f.rs x.a x.b) := Lib.hid q2
        obtain rfl : r = false := by
          cases r with
          | false => rfl
          | true => have h := (HJ.out.1 (HF.out.1 rfl)).1; exact absurd h.2.2.1 q2
        go_wp2_with fail
        refine (rinside_is f.rs x.a x.b false _ _ _ ⟨(fun h => by cases h), fun h => absurd h HGI.out⟩ HRL.out (by have := HMX.out; omega) _ ((HRS.out.below HB.out).below hR2)).mono ?_; rintro e w3 ⟨rfl, rfl⟩
        go_wp2_with fail
        go_ret
        exact ⟨rfl, HB.out.trans (hR2.mono HB.out.size)⟩
      have HGI : Hid (Fo.ins f.rs x.a x.b) := Lib.hid q2
      clear q2
      by_cases q3 : x.c < 1
      case pos =>
        obtain rfl : r = false := by
          cases r with
          | false => rfl
          | true => have h := (HJ.out.1 (HF.out.1 rfl)).1; omega
        go_wp2_with fail
        refine (rinside_is f.rs x.a x.b true _ _ _ ⟨fun _ => HGI.out, fun _ => rfl⟩ HRL.out (by have := HMX.out; omega) _ ((HRS.out.below HB.out).below hR2)).mono ?_; rintro e w3 ⟨rfl, rfl⟩
        go_wp2_with fail
        go_ret
        exact ⟨rfl, HB.out.trans (hR2.mono HB.out.size)⟩
      by_cases q4 : 9 < x.c
      case pos =>
        obtain rfl : r = false := by
          cases r with
          | false => rfl
          | true => have h := (HJ.out.1 (HF.out.1 rfl)).1; omega
        go_wp2_with fail
        refine (rinside_is f.rs x.a x.b true _ _ _ ⟨fun _ => HGI.out, fun _ => rfl⟩ HRL.out (by have := HMX.out; omega) _ ((HRS.out.below HB.out).below hR2)).mono ?_; rintro e w3 ⟨rfl, rfl⟩
        go_wp2_with fail
        go_ret
        exact ⟨rfl, HB.out.trans (hR2.mono HB.out.size)⟩
      have HJ2 : Hid (Fo.chE f.rs 0 f.es ↔ Fo.chE f.rs x.b (f.es.drop (i + 1))) := Lib.hid (HJ.out.trans ⟨fun h => h.2, fun h => ⟨⟨by omega, by omega, HGI.out, by omega, by omega⟩, h⟩⟩)
      go_wp2_with fail
      refine (rinside_is f.rs x.a x.b true _ _ _ ⟨fun _ => HGI.out, fun _ => rfl⟩ HRL.out (by have := HMX.out; omega) _ ((HRS.out.below HB.out).below hR2)).mono ?_; rintro e w3 ⟨rfl, rfl⟩
      go_wp2_with fail
      go_roundw
      case rel => exact ⟨i + 1, x.b, by omega, by simp, rfl, HJ2, hR2⟩
      case measure => simp [intOf]; omega
    · obtain rfl : i = h.el := by omega
      obtain rfl : r = true := HF.out.2 (HJ.out.2 (by rw [List.drop_of_length_le (by rw [HN.out]; exact Nat.le_refl _)]; exact trivial))
      go_wp2_with fail
      go_ret
      exact ⟨rfl, HB.out.trans (hR.mono HB.out.size)⟩
/-- A jump is none, or as it should be. -/
def okJH (h : FH) (rs : List Fo.T3) : Prop := (h.ja = 0 ∧ h.jt = 0 ∧ h.jf = 0) ∨ ((1 ≤ h.ja ∧ h.ja ≤ h.n ∧ 0 ≤ h.jt ∧ h.jt < h.ja ∧ h.jt < h.jf ∧ h.jf ≤ h.n) ∧ ¬ Fo.wi rs h.ja ∧ ¬ Fo.wi rs h.jt ∧ ¬ Fo.wi rs h.jf)
set_option maxHeartbeats 3200000 in
theorem rjump_is (h : FH) (f : Fo.Fm) (r : Bool) (hr : r = true ↔ okJH h f.rs) (hmax : h.rl ≤ 100) (w : World) (hS : SlF w h f) :
    Calls Try.prog 43 #[.agg #[.int .i64 h.n, .slice h.R h.rl h.rc, .slice h.E h.el h.ec, .int .i64 h.ja, .int .i64 h.jt, .int .i64 h.jf, .slice h.C h.cl h.cc]] w fun e w' => e = .returned (.bool r) ∧ Below w.heap.size w w' := by
  have B := (Below.refl w.heap.size w).alloc (Nat.le_refl _) (.cells #[.int .i64 h.n, .slice h.R h.rl h.rc, .slice h.E h.el h.ec, .int .i64 h.ja, .int .i64 h.jt, .int .i64 h.jf, .slice h.C h.cl h.cc] 28)
  have BJ := B.alloc (by simp) (.cells #[.int .i64 h.ja, .int .i64 h.jt, .int .i64 h.jf] 25)
  have hL := (hS.sr.alloc (.cells #[.int .i64 h.n, .slice h.R h.rl h.rc, .slice h.E h.el h.ec, .int .i64 h.ja, .int .i64 h.jt, .int .i64 h.jf, .slice h.C h.cl h.cc] 28)).alloc (.cells #[.int .i64 h.ja, .int .i64 h.jt, .int .i64 h.jf] 25)
  have hl := hS.rl
  have heq := fun W => eqJump ⟨h.ja, h.jt, h.jf⟩ ⟨0, 0, 0⟩ (decide ((⟨h.ja, h.jt, h.jf⟩ : Fo.T3) = ⟨0, 0, 0⟩)) (by simp) W
  dsimp only at heq
  by_cases h0 : (⟨h.ja, h.jt, h.jf⟩ : Fo.T3) = ⟨0, 0, 0⟩
  case pos =>
    obtain ⟨e1, e2, e3⟩ : h.ja = 0 ∧ h.jt = 0 ∧ h.jf = 0 := by simpa using h0
    obtain rfl : r = true := hr.2 (.inl ⟨e1, e2, e3⟩)
    have hd := decide_eq_true h0
    rw [hd] at heq
    clear hr hS hL hl h0 e1 e2 e3 hd
    go_enter Try.func43, Try.ntmps43
    go_wp2_with (first | (simp only [heq]) | fail)
    go_ret
    exact ⟨rfl, BJ⟩
  have hd := decide_eq_false h0
  rw [hd] at heq
  have hr2 : r = true ↔ ((1 ≤ h.ja ∧ h.ja ≤ h.n ∧ 0 ≤ h.jt ∧ h.jt < h.ja ∧ h.jt < h.jf ∧ h.jf ≤ h.n) ∧ ¬ Fo.wi f.rs h.ja ∧ ¬ Fo.wi f.rs h.jt ∧ ¬ Fo.wi f.rs h.jf) := hr.trans ⟨fun k => k.elim (fun k => absurd (by rw [k.1, k.2.1, k.2.2]) h0) id, .inr⟩
  have HR := Lib.hid hr2; have HLL := Lib.hid hL; have HLE := Lib.hid hl; have HMX := Lib.hid hmax
  clear hr hr2 hS hL hl h0 hd hmax B
  by_cases q0 : h.ja < 1
  case pos =>
    obtain rfl : r = false := by
      cases r with
      | false => rfl
      | true => have h := (HR.out.1 rfl).1; omega
    go_enter Try.func43, Try.ntmps43
    go_wp2_with (first | (simp only [heq]) | fail)
    go_ret
    exact ⟨rfl, BJ⟩
  by_cases q1 : h.n < h.ja
  case pos =>
    obtain rfl : r = false := by
      cases r with
      | false => rfl
      | true => have h := (HR.out.1 rfl).1; omega
    go_enter Try.func43, Try.ntmps43
    go_wp2_with (first | (simp only [heq]) | fail)
    go_ret
    exact ⟨rfl, BJ⟩
  by_cases q2 : h.jt < 0
  case pos =>
    obtain rfl : r = false := by
      cases r with
      | false => rfl
      | true => have h := (HR.out.1 rfl).1; omega
    go_enter Try.func43, Try.ntmps43
    go_wp2_with (first | (simp only [heq]) | fail)
    go_ret
    exact ⟨rfl, BJ⟩
  by_cases q3 : h.ja ≤ h.jt
  case pos =>
    obtain rfl : r = false := by
      cases r with
      | false => rfl
      | true => have h := (HR.out.1 rfl).1; omega
    go_enter Try.func43, Try.ntmps43
    go_wp2_with (first | (simp only [heq]) | fail)
    go_ret
    exact ⟨rfl, BJ⟩
  by_cases q4 : h.jf ≤ h.jt
  case pos =>
    obtain rfl : r = false := by
      cases r with
      | false => rfl
      | true => have h := (HR.out.1 rfl).1; omega
    go_enter Try.func43, Try.ntmps43
    go_wp2_with (first | (simp only [heq]) | fail)
    go_ret
    exact ⟨rfl, BJ⟩
  by_cases q5 : h.n < h.jf
  case pos =>
    obtain rfl : r = false := by
      cases r with
      | false => rfl
      | true => have h := (HR.out.1 rfl).1; omega
    go_enter Try.func43, Try.ntmps43
    go_wp2_with (first | (simp only [heq]) | fail)
    go_ret
    exact ⟨rfl, BJ⟩
  have HQ := Lib.hid (show 1 ≤ h.ja ∧ h.ja ≤ h.n ∧ 0 ≤ h.jt ∧ h.jt < h.ja ∧ h.jt < h.jf ∧ h.jf ≤ h.n by omega)
  by_cases p0 : Fo.wi f.rs h.ja
  case pos =>
    obtain rfl : r = false := by
      cases r with
      | false => rfl
      | true => exact absurd p0 (HR.out.1 rfl).2.1
    have HW0 : Hid (Fo.wi f.rs h.ja) := Lib.hid p0
    clear p0
    go_enter Try.func43, Try.ntmps43
    go_wp2_with (first | (simp only [heq]) | fail)
    refine (rwithin_is f.rs h.ja true _ _ _ ⟨fun _ => HW0.out, fun _ => rfl⟩ HLE.out (by have := HMX.out; omega) _ HLL.out).mono ?_; rintro e w0 ⟨rfl, rfl⟩
    go_wp2_with fail
    go_ret
    exact ⟨rfl, BJ⟩
  have HW0 : Hid (¬ Fo.wi f.rs h.ja) := Lib.hid p0
  by_cases p1 : Fo.wi f.rs h.jt
  case pos =>
    obtain rfl : r = false := by
      cases r with
      | false => rfl
      | true => exact absurd p1 (HR.out.1 rfl).2.2.1
    have HW1 : Hid (Fo.wi f.rs h.jt) := Lib.hid p1
    clear p1
    go_enter Try.func43, Try.ntmps43
    go_wp2_with (first | (simp only [heq]) | fail)
    refine (rwithin_is f.rs h.ja false _ _ _ ⟨(fun h => by cases h), fun h => absurd h HW0.out⟩ HLE.out (by have := HMX.out; omega) _ HLL.out).mono ?_; rintro e w0 ⟨rfl, rfl⟩
    go_wp2_with fail
    refine (rwithin_is f.rs h.jt true _ _ _ ⟨fun _ => HW1.out, fun _ => rfl⟩ HLE.out (by have := HMX.out; omega) _ HLL.out).mono ?_; rintro e w1 ⟨rfl, rfl⟩
    go_wp2_with fail
    go_ret
    exact ⟨rfl, BJ⟩
  have HW1 : Hid (¬ Fo.wi f.rs h.jt) := Lib.hid p1
  by_cases p2 : Fo.wi f.rs h.jf
  case pos =>
    obtain rfl : r = false := by
      cases r with
      | false => rfl
      | true => exact absurd p2 (HR.out.1 rfl).2.2.2
    have HW2 : Hid (Fo.wi f.rs h.jf) := Lib.hid p2
    clear p2
    go_enter Try.func43, Try.ntmps43
    go_wp2_with (first | (simp only [heq]) | fail)
    refine (rwithin_is f.rs h.ja false _ _ _ ⟨(fun h => by cases h), fun h => absurd h HW0.out⟩ HLE.out (by have := HMX.out; omega) _ HLL.out).mono ?_; rintro e w0 ⟨rfl, rfl⟩
    go_wp2_with fail
    refine (rwithin_is f.rs h.jt false _ _ _ ⟨(fun h => by cases h), fun h => absurd h HW1.out⟩ HLE.out (by have := HMX.out; omega) _ HLL.out).mono ?_; rintro e w1 ⟨rfl, rfl⟩
    go_wp2_with fail
    refine (rwithin_is f.rs h.jf true _ _ _ ⟨fun _ => HW2.out, fun _ => rfl⟩ HLE.out (by have := HMX.out; omega) _ HLL.out).mono ?_; rintro e w2 ⟨rfl, rfl⟩
    go_wp2_with fail
    go_ret
    exact ⟨rfl, BJ⟩
  have HW2 : Hid (¬ Fo.wi f.rs h.jf) := Lib.hid p2
  obtain rfl : r = true := HR.out.2 ⟨HQ.out, p0, p1, p2⟩
  clear p0 p1 p2
  go_enter Try.func43, Try.ntmps43
  go_wp2_with (first | (simp only [heq]) | fail)
  refine (rwithin_is f.rs h.ja false _ _ _ ⟨(fun h => by cases h), fun h => absurd h HW0.out⟩ HLE.out (by have := HMX.out; omega) _ HLL.out).mono ?_; rintro e w0 ⟨rfl, rfl⟩
  go_wp2_with fail
  refine (rwithin_is f.rs h.jt false _ _ _ ⟨(fun h => by cases h), fun h => absurd h HW1.out⟩ HLE.out (by have := HMX.out; omega) _ HLL.out).mono ?_; rintro e w1 ⟨rfl, rfl⟩
  go_wp2_with fail
  refine (rwithin_is f.rs h.jf false _ _ _ ⟨(fun h => by cases h), fun h => absurd h HW2.out⟩ HLE.out (by have := HMX.out; omega) _ HLL.out).mono ?_; rintro e w2 ⟨rfl, rfl⟩
  go_wp2_with fail
  go_ret
  exact ⟨rfl, BJ⟩
end Go.Proofs.Ytakbpgljbbkmkaa
