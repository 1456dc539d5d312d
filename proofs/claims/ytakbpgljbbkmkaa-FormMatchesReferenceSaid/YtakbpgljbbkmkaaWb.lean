/- The walks of reprise's areRepeats and areEndings, with the library's IndexFunc and ContainsFunc over repeats. -/
import Derived.Test.YtakbpgljbbkmkaaWa
import Derived.Test.YtakbpgljbbkmkaaVq
namespace Go.Proofs.Ytakbpgljbbkmkaa
open Go.RowKit

theorem Var2.put0 {w : World} {b : Nat} {x y : Int} (h : Var2 w b x y) (p : Int) : Var2 (w.setCell ⟨b, 0, none⟩ (.int .i64 p)) b p y := by
  obtain ⟨⟨l, c0, c1⟩, f0, f1⟩ := h
  refine ⟨⟨?_, ?_, ?_⟩, ?_, ?_⟩
  · simpa using l
  all_goals go_simp
theorem Var2.put1 {w : World} {b : Nat} {x y : Int} (h : Var2 w b x y) (p : Int) : Var2 (w.setCell ⟨b, 1, none⟩ (.int .i64 p)) b x p := by
  obtain ⟨⟨l, c0, c1⟩, f0, f1⟩ := h
  refine ⟨⟨?_, ?_, ?_⟩, ?_, ?_⟩
  · simpa using l
  all_goals go_simp
set_option maxHeartbeats 3200000 in
theorem wrepeats_is (h : FH) (f : Fo.Fm) (r : Bool) (hr : r = true ↔ f.rs.length ≤ 100 ∧ Fo.chR h.n 0 f.rs) (w : World) (hS : SlF w h f) :
    Calls Try.prog 36 #[.agg #[.int .i64 h.n, .slice h.R h.rl h.rc, .slice h.E h.el h.ec, .int .i64 h.ja, .int .i64 h.jt, .int .i64 h.jf, .slice h.C h.cl h.cc]] w fun e w' => e = .returned (.bool r) ∧ Below w.heap.size w w' := by
  have HN := Lib.hid hS.rl; have HL := Lib.hid hS.sr
  have B := (Below.refl w.heap.size w).alloc (Nat.le_refl _) (.cells #[.int .i64 h.n, .slice h.R h.rl h.rc, .slice h.E h.el h.ec, .int .i64 h.ja, .int .i64 h.jt, .int .i64 h.jf, .slice h.C h.cl h.cc] 28)
  by_cases h100 : h.rl ≤ 100
  case neg =>
    obtain rfl : r = false := by
      cases r with
      | false => rfl
      | true => exact absurd (hr.1 rfl).1 (by rw [hS.rl]; omega)
    have h1 : (h.rl : Int) > 100 := by omega
    clear hr hS h100
    go_enter Try.func36, Try.ntmps36
    go_wp2_with fail
    go_ret
    exact ⟨rfl, B⟩
  have HF : Hid (r = true ↔ Fo.chR h.n 0 f.rs) := Lib.hid (hr.trans ⟨fun h => h.2, fun h => ⟨by rw [hS.rl]; omega, h⟩⟩)
  have h1 : ¬ (h.rl : Int) > 100 := by omega
  have V0 : Var2 ((w.alloc (.cells #[.int .i64 h.n, .slice h.R h.rl h.rc, .slice h.E h.el h.ec, .int .i64 h.ja, .int .i64 h.jt, .int .i64 h.jf, .slice h.C h.cl h.cc] 28)).alloc (.cells #[.int .i64 0, .int .i64 h.n] 80)) (w.alloc (.cells #[.int .i64 h.n, .slice h.R h.rl h.rc, .slice h.E h.el h.ec, .int .i64 h.ja, .int .i64 h.jt, .int .i64 h.jf, .slice h.C h.cl h.cc] 28)).heap.size 0 h.n := Var2.new _ _ _ _
  have Q0 := (FB.new w h).alloc (.cells #[.int .i64 0, .int .i64 h.n] 80)
  have B0 := B.alloc (by simp) (.cells #[.int .i64 0, .int .i64 h.n] 80)
  rw [World.size_alloc] at V0
  clear hr hS B
  go_enter Try.func36, Try.ntmps36
  go_wp2_with fail
  have HV0 := Lib.hid V0; have HQ0 := Lib.hid Q0; have HB0 := Lib.hid B0
  clear V0 Q0 B0
  go_loopw [16] (fun s16 wr => ∃ (i : Nat) (last : Int), i ≤ h.rl ∧ s16 = .int .i64 (i : Int) ∧ Hid (Fo.chR h.n 0 f.rs ↔ Fo.chR h.n last (f.rs.drop i)) ∧ Hid (Var2 wr (w.heap.size + 1) last h.n) ∧ Hid (FB wr w.heap.size h) ∧ Below w.heap.size w wr) (fun s16 _ => h.rl - (intOf s16).toNat)
  case atStart => exact ⟨0, 0, Nat.zero_le _, rfl, Lib.hid (by rw [List.drop_zero]), HV0, HQ0, HB0.out⟩
  case round =>
    obtain ⟨i, last, hi, rfl, HJ, HV, HQ, hR⟩ := hrel
    by_cases hlt : i < h.rl
    · have hil : i < f.rs.length := by rw [HN.out]; exact hlt
      obtain ⟨b, off, hRe, hb, hc⟩ := HL.out (by omega)
      have X := (hc i hil).below hR hb
      obtain ⟨x, hx⟩ : ∃ x, Fo.at3 f.rs i = x := ⟨_, rfl⟩
      rw [hx] at X
      have hd := Fo.drop_at hil
      rw [hx] at hd
      replace HJ : Hid (Fo.chR h.n 0 f.rs ↔ (last ≤ x.a ∧ x.a < x.b ∧ x.b ≤ h.n ∧ 1 ≤ x.c ∧ x.c ≤ 9) ∧ Fo.chR h.n x.b (f.rs.drop (i + 1))) := Lib.hid (by have h := HJ.out; rw [hd] at h; exact h)
      have XT := TB.new wr x 54
      have V1 := HV.out.alloc (.cells #[.int .i64 x.a, .int .i64 x.b, .int .i64 x.c] 54)
      have Q1 := HQ.out.alloc (.cells #[.int .i64 x.a, .int .i64 x.b, .int .i64 x.c] 54)
      have R1 := hR.alloc hR.size (.cells #[.int .i64 x.a, .int .i64 x.b, .int .i64 x.c] 54)
      have v0 := HV.out.at2.c0; have v1 := HV.out.at2.c1; have vl := HV.out.at2.lt
      obtain ⟨g, hg⟩ : ∃ g : Bool, g = true ↔ Fo.iw x.a x.b last h.n := ⟨decide _, decide_eq_true_iff⟩
      obtain ⟨k, hk⟩ : ∃ k : Bool, k = true ↔ 1 ≤ x.c ∧ x.c ≤ 9 := ⟨decide _, decide_eq_true_iff⟩
      have HG := Lib.hid hg; have HK := Lib.hid hk
      have HXT := Lib.hid XT; have HV1 := Lib.hid V1; have HQ1 := Lib.hid Q1; have HR1 := Lib.hid R1
      obtain ⟨c0, c1, c2⟩ := X
      have hi1 : (i : Int) < (h.rl : Int) := by omega
      have hRf := hRe
      clear hc hx hil hd hg hk XT V1 Q1 R1
      rw [hRe]
      go_wp2_with fail
      refine (wwithin_is x.a x.b last h.n g HG.out _).mono ?_; rintro e w3 ⟨rfl, hb3⟩
      have X3 := HXT.out.below hb3; have V3 := HV1.out.below hb3; have Q3 := HQ1.out.below hb3
      have R3 := HR1.out.trans (hb3.mono HR1.out.size)
      clear hb3 v0 v1 vl c0 c1 c2
      cases g with
      | false =>
        obtain rfl : r = false := by
          cases r with
          | false => rfl
          | true => have h := (HJ.out.1 (HF.out.1 rfl)).1; exact absurd (HG.out.2 ⟨h.1, h.2.1, h.2.2.1⟩) (by simp)
        go_wp2_with fail
        go_ret
        exact ⟨rfl, R3⟩
      | true =>
        have HG2 := Lib.hid (HG.out.1 rfl)
        have x2 := X3.c2; have xl := X3.lt
        go_wp2_with fail
        refine (lbetween_is x.c 1 9 k HK.out _).mono ?_; rintro e w4 ⟨rfl, rfl⟩
        cases k with
        | false =>
          obtain rfl : r = false := by
            cases r with
            | false => rfl
            | true => have h := (HJ.out.1 (HF.out.1 rfl)).1; exact absurd (HK.out.2 ⟨h.2.2.2.1, h.2.2.2.2⟩) (by simp)
          go_wp2_with fail
          go_ret
          exact ⟨rfl, R3⟩
        | true =>
          have HJ2 : Hid (Fo.chR h.n 0 f.rs ↔ Fo.chR h.n x.b (f.rs.drop (i + 1))) := Lib.hid (HJ.out.trans ⟨fun h => h.2, fun h => ⟨⟨HG2.out.1, HG2.out.2.1, HG2.out.2.2, (HK.out.1 rfl).1, (HK.out.1 rfl).2⟩, h⟩⟩)
          have x1 := X3.c1
          have v0 := V3.at2.c0; have vf := V3.f0; have vl := V3.at2.lt
          have HV4 := Lib.hid (V3.put0 x.b)
          have HQ4 := Lib.hid (Q3.other (p := ⟨w.heap.size + 1, 0, none⟩) (by simp) (.int .i64 x.b))
          have HR4 := Lib.hid (R3.setCell (p := ⟨w.heap.size + 1, 0, none⟩) (by simp) (.int .i64 x.b))
          clear X3 V3 Q3 R3
          go_wp2_with fail
          go_roundw
          case rel => exact ⟨i + 1, x.b, by omega, by simp, HJ2, HV4, HQ4, HR4.out⟩
          case measure => simp [intOf]; omega
    · obtain rfl : i = h.rl := by omega
      obtain rfl : r = true := HF.out.2 (HJ.out.2 (by rw [List.drop_of_length_le (by rw [HN.out]; exact Nat.le_refl _)]; exact trivial))
      go_wp2_with fail
      go_ret
      exact ⟨rfl, hR⟩
end Go.Proofs.Ytakbpgljbbkmkaa
