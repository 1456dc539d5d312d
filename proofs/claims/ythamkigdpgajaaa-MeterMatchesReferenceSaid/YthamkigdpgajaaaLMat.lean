/- The walk of the law MeterMatchesReference. -/
import Derived.Test.YthamkigdpgajaaaNl
namespace Go.Proofs.Ythamkigdpgajaaa
open Go.RowKit
theorem kfew_b (n cap : Nat) (A : Option Addr) (f : Bool) (h : decide (n ≤ 60 ∨ 4000 < n ∧ n < 5000) = f) (w : World) :
    Calls Try.prog 10 #[.slice A n cap] w fun e w' => e = .returned (.bool f) ∧ Below w.heap.size w w' :=
  (kfew_is n cap A f h w).mono fun _ _ h => ⟨h.1, h.2 ▸ Below.refl _ _⟩

set_option maxHeartbeats 1600000 in
theorem meterMatchesReference_walk (A0 : Option Addr) (n0 c0 : Nat) (l0 : List Mt.B) (hl0 : l0.length = n0) (hw0 : Mt.Wf l0) (_hc0 : n0 ≤ c0) (b1 x1 y1 : Int) (x2 y2 : Int) (_hx2 : -9223372036854775808 ≤ x2 ∧ x2 ≤ 9223372036854775807) (x3 y3 : Int) (hx3 : -9223372036854775808 ≤ x3 ∧ x3 ≤ 9223372036854775807) (w : World) (L0 : SlB w A0 l0) :
    Calls Try.prog 3 #[.slice A0 n0 c0, .agg #[.int .i64 b1, .int .i64 x1, .int .i64 y1], .agg #[.int .i64 x2, .int .i64 y2], .agg #[.int .i64 x3, .int .i64 y3]] w fun e w' => e = .returned (.bool true) ∧ Below w.heap.size w w' := by
  obtain ⟨f, hf⟩ : ∃ f, decide (n0 ≤ 60 ∨ 4000 < n0 ∧ n0 < 5000) = f := ⟨_, rfl⟩
  have HF := Lib.hid hf
  clear hf
  cases f with
  | false =>
    go_enter Try.func3, Try.ntmps3
    go_wp2_with fail
    obtain ⟨w0, ew0⟩ : ∃ w0, (((w.alloc (.cells #[.int .i64 b1, .int .i64 x1, .int .i64 y1] 26)).alloc (.cells #[.int .i64 x2, .int .i64 y2] 24)).alloc (.cells #[.int .i64 x3, .int .i64 y3] 24)) = w0 := ⟨_, rfl⟩
    have BASE : Below w.heap.size w w0 := by rw [← ew0]; exact ((((Below.refl w.heap.size w).alloc (by first | exact Nat.le_refl _ | (simp <;> omega)) _).alloc (by first | exact Nat.le_refl _ | (simp <;> omega)) _).alloc (by first | exact Nat.le_refl _ | (simp <;> omega)) _)
    have P1 : At3 w0 (w.heap.size) b1 x1 y1 := by
      have h : At3 (((w.alloc (.cells #[.int .i64 b1, .int .i64 x1, .int .i64 y1] 26)).alloc (.cells #[.int .i64 x2, .int .i64 y2] 24)).alloc (.cells #[.int .i64 x3, .int .i64 y3] 24)) w.heap.size b1 x1 y1 := (((At3.new w b1 x1 y1 26).alloc _).alloc _)
      rw [ew0] at h
      simpa only [World.size_alloc] using h
    have T2 : At2 w0 (w.heap.size + 1) x2 y2 := by
      have h : At2 (((w.alloc (.cells #[.int .i64 b1, .int .i64 x1, .int .i64 y1] 26)).alloc (.cells #[.int .i64 x2, .int .i64 y2] 24)).alloc (.cells #[.int .i64 x3, .int .i64 y3] 24)) (w.alloc (.cells #[.int .i64 b1, .int .i64 x1, .int .i64 y1] 26)).heap.size x2 y2 := ((At2.new (w.alloc (.cells #[.int .i64 b1, .int .i64 x1, .int .i64 y1] 26)) x2 y2 24).alloc _)
      rw [ew0] at h
      simpa only [World.size_alloc] using h
    have T3 : At2 w0 (w.heap.size + 2) x3 y3 := by
      have h : At2 (((w.alloc (.cells #[.int .i64 b1, .int .i64 x1, .int .i64 y1] 26)).alloc (.cells #[.int .i64 x2, .int .i64 y2] 24)).alloc (.cells #[.int .i64 x3, .int .i64 y3] 24)) ((w.alloc (.cells #[.int .i64 b1, .int .i64 x1, .int .i64 y1] 26)).alloc (.cells #[.int .i64 x2, .int .i64 y2] 24)).heap.size x3 y3 := (At2.new ((w.alloc (.cells #[.int .i64 b1, .int .i64 x1, .int .i64 y1] 26)).alloc (.cells #[.int .i64 x2, .int .i64 y2] 24)) x3 y3 24)
      rw [ew0] at h
      simpa only [World.size_alloc] using h
    have M0 : SlB w0 A0 l0 := by rw [← ew0]; exact (((L0.alloc _).alloc _).alloc _)
    have hs0 : w0.heap.size = w.heap.size + 3 := by rw [← ew0]; simp
    rw [ew0]
    clear ew0
    clear L0
    have B := Below.refl w0.heap.size w0
    refine (head_any _).mono ?_; rintro e w1 ⟨rfl, hb⟩
    replace B := B.trans (hb.mono (by have := B.size; simp <;> omega))
    clear hb
    go_wp2_with fail
    refine (kfew_b n0 c0 A0 false HF.out _).mono ?_; rintro e w2 ⟨rfl, hb⟩
    replace B := B.trans (hb.mono (by have := B.size; simp <;> omega))
    clear hb
    go_wp2_with fail
    go_ret
    refine ⟨rfl, BASE.trans (Below.mono (B := w0.heap.size) ?_ BASE.size)⟩
    exact B
  | true =>
    obtain ⟨g, hg⟩ : ∃ g : Bool, g = true ↔ Mt.Val l0 := by classical exact ⟨decide (Mt.Val l0), by simp⟩
    obtain ⟨p, hp⟩ : ∃ p, Mt.posB l0 b1 x1 y1 = p := ⟨_, rfl⟩
    obtain ⟨q, hq⟩ : ∃ q, decide (0 ≤ Mt.tk x2 y2) = q := ⟨_, rfl⟩
    obtain ⟨r, hr⟩ : ∃ r, (Mt.byT x3 y3).isSome = r := ⟨_, rfl⟩
    obtain ⟨⟨X1, Y1, E1⟩, h1⟩ : ∃ x, Mt.rR g (Mt.totN l0) (Mt.totD l0) = x := ⟨_, rfl⟩
    obtain ⟨⟨X2, Y2, E2⟩, h2⟩ : ∃ x, Mt.rR (g && p) (Mt.oN (Mt.before l0 b1.toNat + Mt.tk x1 y1).toNat) (Mt.oD (Mt.before l0 b1.toNat + Mt.tk x1 y1).toNat) = x := ⟨_, rfl⟩
    obtain ⟨⟨X3, Y3, Z3, E3⟩, h3⟩ : ∃ x, Mt.pC (g && q) (Mt.wh l0 (Mt.tk x2 y2)) = x := ⟨_, rfl⟩
    obtain ⟨⟨X4, Y4, Z4, E4⟩, h4⟩ : ∃ x, Mt.pC (g && p && r) (Mt.shO l0 b1 x1 y1 x3 y3) = x := ⟨_, rfl⟩
    have HG := Lib.hid hg
    have HP := Lib.hid hp
    have HQ := Lib.hid hq
    have HR := Lib.hid hr
    have H1 := Lib.hid h1
    have H2 := Lib.hid h2
    have H3 := Lib.hid h3
    have H4 := Lib.hid h4
    have HN := Lib.hid hl0
    have HW := Lib.hid hw0
    have HX := Lib.hid hx3
    clear hg hp hq hr h1 h2 h3 h4 hl0 hw0 hx3
    go_enter Try.func3, Try.ntmps3
    go_wp2_with fail
    obtain ⟨w0, ew0⟩ : ∃ w0, (((w.alloc (.cells #[.int .i64 b1, .int .i64 x1, .int .i64 y1] 26)).alloc (.cells #[.int .i64 x2, .int .i64 y2] 24)).alloc (.cells #[.int .i64 x3, .int .i64 y3] 24)) = w0 := ⟨_, rfl⟩
    have BASE : Below w.heap.size w w0 := by rw [← ew0]; exact ((((Below.refl w.heap.size w).alloc (by first | exact Nat.le_refl _ | (simp <;> omega)) _).alloc (by first | exact Nat.le_refl _ | (simp <;> omega)) _).alloc (by first | exact Nat.le_refl _ | (simp <;> omega)) _)
    have P1 : At3 w0 (w.heap.size) b1 x1 y1 := by
      have h : At3 (((w.alloc (.cells #[.int .i64 b1, .int .i64 x1, .int .i64 y1] 26)).alloc (.cells #[.int .i64 x2, .int .i64 y2] 24)).alloc (.cells #[.int .i64 x3, .int .i64 y3] 24)) w.heap.size b1 x1 y1 := (((At3.new w b1 x1 y1 26).alloc _).alloc _)
      rw [ew0] at h
      simpa only [World.size_alloc] using h
    have T2 : At2 w0 (w.heap.size + 1) x2 y2 := by
      have h : At2 (((w.alloc (.cells #[.int .i64 b1, .int .i64 x1, .int .i64 y1] 26)).alloc (.cells #[.int .i64 x2, .int .i64 y2] 24)).alloc (.cells #[.int .i64 x3, .int .i64 y3] 24)) (w.alloc (.cells #[.int .i64 b1, .int .i64 x1, .int .i64 y1] 26)).heap.size x2 y2 := ((At2.new (w.alloc (.cells #[.int .i64 b1, .int .i64 x1, .int .i64 y1] 26)) x2 y2 24).alloc _)
      rw [ew0] at h
      simpa only [World.size_alloc] using h
    have T3 : At2 w0 (w.heap.size + 2) x3 y3 := by
      have h : At2 (((w.alloc (.cells #[.int .i64 b1, .int .i64 x1, .int .i64 y1] 26)).alloc (.cells #[.int .i64 x2, .int .i64 y2] 24)).alloc (.cells #[.int .i64 x3, .int .i64 y3] 24)) ((w.alloc (.cells #[.int .i64 b1, .int .i64 x1, .int .i64 y1] 26)).alloc (.cells #[.int .i64 x2, .int .i64 y2] 24)).heap.size x3 y3 := (At2.new ((w.alloc (.cells #[.int .i64 b1, .int .i64 x1, .int .i64 y1] 26)).alloc (.cells #[.int .i64 x2, .int .i64 y2] 24)) x3 y3 24)
      rw [ew0] at h
      simpa only [World.size_alloc] using h
    have M0 : SlB w0 A0 l0 := by rw [← ew0]; exact (((L0.alloc _).alloc _).alloc _)
    have hs0 : w0.heap.size = w.heap.size + 3 := by rw [← ew0]; simp
    rw [ew0]
    clear ew0
    clear L0
    have B := Below.refl w0.heap.size w0
    refine (head_any _).mono ?_; rintro e w1 ⟨rfl, hb⟩
    replace B := B.trans (hb.mono (by have := B.size; simp <;> omega))
    clear hb
    go_wp2_with fail
    refine (kfew_b n0 c0 A0 true HF.out _).mono ?_; rintro e w2 ⟨rfl, hb⟩
    replace B := B.trans (hb.mono (by have := B.size; simp <;> omega))
    clear hb
    go_wp2_with fail
    refine (mtotal_lt l0 g X1 Y1 E1 n0 c0 A0 HG.out H1.out HN.out HW.out _ (M0.below B)).mono ?_; rintro e w3 ⟨rfl, hb⟩
    replace B := B.trans (hb.mono (by have := B.size; simp <;> omega))
    clear hb
    go_wp2_with fail
    refine (ktotal_lt l0 g X1 Y1 E1 n0 c0 A0 HG.out H1.out HN.out _ (M0.below (B.alloc (by have := B.size; simp <;> omega) _))).mono ?_; rintro e w4 ⟨rfl, hb⟩
    have nb_a : w0.heap.size ≤ w3.heap.size := by have := B.size; omega
    have a := (Var2.new _ (X1) (Y1) _).below hb
    replace B := (B.alloc (by have := B.size; simp <;> omega) _).trans (hb.mono (by have := B.size; simp <;> omega))
    clear hb
    go_wp2_with fail
    refine (mvalid_is l0 g n0 c0 A0 HG.out HN.out HW.out _ (M0.below (B.alloc (by have := B.size; simp <;> omega) _))).mono ?_; rintro e w5 ⟨rfl, hb⟩
    have n_a_b : w3.heap.size < w4.heap.size := by have := a.at2.lt; omega
    have nb_b : w0.heap.size ≤ w4.heap.size := by have := B.size; omega
    replace a := (a.alloc _).below hb
    have b := (Var2.new _ (X1) (Y1) _).below hb
    replace B := (B.alloc (by have := B.size; simp <;> omega) _).trans (hb.mono (by have := B.size; simp <;> omega))
    clear hb
    go_wp2_with fail
    refine (kvalid_is l0 g n0 c0 A0 HG.out HN.out _ (M0.below B)).mono ?_; rintro e w6 ⟨rfl, hb⟩
    replace a := a.below hb
    replace b := b.below hb
    replace B := B.trans (hb.mono (by have := B.size; simp <;> omega))
    clear hb
    have la := a.at2.lt; have ca0 := a.at2.c0; have ca1 := a.at2.c1; have fa0 := a.f0; have fa1 := a.f1
    have lb := b.at2.lt; have cb0 := b.at2.c0; have cb1 := b.at2.c1; have fb0 := b.f0; have fb1 := b.f1
    have oP1 := P1.below B; have lP1 := oP1.lt; have cP10 := oP1.c0; have cP11 := oP1.c1; have cP12 := oP1.c2; clear oP1
    go_wp2_with fail
    refine (mtime_lt l0 b1 x1 y1 g p X2 Y2 E2 n0 c0 A0 HG.out HP.out H2.out HN.out HW.out _ (M0.below B)).mono ?_; rintro e w7 ⟨rfl, hb⟩
    replace a := a.below hb
    replace b := b.below hb
    replace B := B.trans (hb.mono (by have := B.size; simp <;> omega))
    clear hb la ca0 ca1 fa0 fa1 lb cb0 cb1 fb0 fb1 lP1 cP10 cP11 cP12
    have la := a.at2.lt; have ca0 := a.at2.c0; have ca1 := a.at2.c1; have fa0 := a.f0; have fa1 := a.f1
    have oP1 := P1.below B; have lP1 := oP1.lt; have cP10 := oP1.c0; have cP11 := oP1.c1; have cP12 := oP1.c2; clear oP1
    go_wp2_with fail
    refine (ktime_lt l0 b1 x1 y1 g p X2 Y2 E2 n0 c0 A0 HG.out HP.out H2.out HN.out _ (M0.below ((B.setCell (p := ⟨w3.heap.size, 0, none⟩) nb_a _).setCell (p := ⟨w3.heap.size, 1, none⟩) nb_a _))).mono ?_; rintro e w8 ⟨rfl, hb⟩
    replace a := (a.put (X2) (Y2)).below hb
    replace b := ((b.ne _ _ _ (by omega)).ne _ _ _ (by omega)).below hb
    replace B := ((B.setCell (p := ⟨w3.heap.size, 0, none⟩) nb_a _).setCell (p := ⟨w3.heap.size, 1, none⟩) nb_a _).trans (hb.mono (by have := B.size; simp <;> omega))
    clear hb la ca0 ca1 fa0 fa1 lP1 cP10 cP11 cP12
    have la := a.at2.lt; have ca0 := a.at2.c0; have ca1 := a.at2.c1; have fa0 := a.f0; have fa1 := a.f1
    have lb := b.at2.lt; have cb0 := b.at2.c0; have cb1 := b.at2.c1; have fb0 := b.f0; have fb1 := b.f1
    have oT2 := T2.below B; have lT2 := oT2.lt; have cT20 := oT2.c0; have cT21 := oT2.c1; clear oT2
    go_wp2_with fail
    refine (mwhere_lt l0 x2 y2 g q X3 Y3 Z3 E3 n0 c0 A0 HG.out HQ.out H3.out HN.out HW.out _ (M0.below ((B.setCell (p := ⟨w4.heap.size, 0, none⟩) nb_b _).setCell (p := ⟨w4.heap.size, 1, none⟩) nb_b _))).mono ?_; rintro e w9 ⟨rfl, hb⟩
    replace a := ((a.ne _ _ _ (by omega)).ne _ _ _ (by omega)).below hb
    replace b := (b.put (X2) (Y2)).below hb
    replace B := ((B.setCell (p := ⟨w4.heap.size, 0, none⟩) nb_b _).setCell (p := ⟨w4.heap.size, 1, none⟩) nb_b _).trans (hb.mono (by have := B.size; simp <;> omega))
    clear hb la ca0 ca1 fa0 fa1 lb cb0 cb1 fb0 fb1 lT2 cT20 cT21
    have oT2 := T2.below B; have lT2 := oT2.lt; have cT20 := oT2.c0; have cT21 := oT2.c1; clear oT2
    go_wp2_with fail
    refine (kwhere_lt l0 x2 y2 g q X3 Y3 Z3 E3 n0 c0 A0 HG.out HQ.out H3.out HN.out _ (M0.below (B.alloc (by have := B.size; simp <;> omega) _))).mono ?_; rintro e w10 ⟨rfl, hb⟩
    have n_a_x : w3.heap.size < w9.heap.size := by have := a.at2.lt; omega
    have n_b_x : w4.heap.size < w9.heap.size := by have := b.at2.lt; omega
    have nb_x : w0.heap.size ≤ w9.heap.size := by have := B.size; omega
    replace a := (a.alloc _).below hb
    replace b := (b.alloc _).below hb
    have x := (Var3.new _ (X3) (Y3) (Z3) _).below hb
    replace B := (B.alloc (by have := B.size; simp <;> omega) _).trans (hb.mono (by have := B.size; simp <;> omega))
    clear hb lT2 cT20 cT21
    have lx := x.at3.lt; have cx0 := x.at3.c0; have cx1 := x.at3.c1; have cx2 := x.at3.c2; have fx0 := x.f0; have fx1 := x.f1; have fx2 := x.f2
    have oP1 := P1.below B; have lP1 := oP1.lt; have cP10 := oP1.c0; have cP11 := oP1.c1; have cP12 := oP1.c2; clear oP1
    have oT3 := T3.below B; have lT3 := oT3.lt; have cT30 := oT3.c0; have cT31 := oT3.c1; clear oT3
    go_wp2_with fail
    refine (mshift_lt l0 b1 x1 y1 x3 y3 g p r X4 Y4 Z4 E4 n0 c0 A0 HG.out HP.out HR.out H4.out HN.out HW.out HX.out _ (M0.below (B.alloc (by have := B.size; simp <;> omega) _))).mono ?_; rintro e w11 ⟨rfl, hb⟩
    have n_a_y : w3.heap.size < w10.heap.size := by have := a.at2.lt; omega
    have n_b_y : w4.heap.size < w10.heap.size := by have := b.at2.lt; omega
    have n_x_y : w9.heap.size < w10.heap.size := by have := x.at3.lt; omega
    have nb_y : w0.heap.size ≤ w10.heap.size := by have := B.size; omega
    replace a := (a.alloc _).below hb
    replace b := (b.alloc _).below hb
    replace x := (x.alloc _).below hb
    have y := (Var3.new _ (X3) (Y3) (Z3) _).below hb
    replace B := (B.alloc (by have := B.size; simp <;> omega) _).trans (hb.mono (by have := B.size; simp <;> omega))
    clear hb lx cx0 cx1 cx2 fx0 fx1 fx2 lP1 cP10 cP11 cP12 lT3 cT30 cT31
    have lx := x.at3.lt; have cx0 := x.at3.c0; have cx1 := x.at3.c1; have cx2 := x.at3.c2; have fx0 := x.f0; have fx1 := x.f1; have fx2 := x.f2
    have oP1 := P1.below B; have lP1 := oP1.lt; have cP10 := oP1.c0; have cP11 := oP1.c1; have cP12 := oP1.c2; clear oP1
    have oT3 := T3.below B; have lT3 := oT3.lt; have cT30 := oT3.c0; have cT31 := oT3.c1; clear oT3
    go_wp2_with fail
    refine (kshift_lt l0 b1 x1 y1 x3 y3 g p r X4 Y4 Z4 E4 n0 c0 A0 HG.out HP.out HR.out H4.out HN.out HX.out _ (M0.below (((B.setCell (p := ⟨w9.heap.size, 0, none⟩) nb_x _).setCell (p := ⟨w9.heap.size, 1, none⟩) nb_x _).setCell (p := ⟨w9.heap.size, 2, none⟩) nb_x _))).mono ?_; rintro e w12 ⟨rfl, hb⟩
    replace a := (((a.ne _ _ _ (by omega)).ne _ _ _ (by omega)).ne _ _ _ (by omega)).below hb
    replace b := (((b.ne _ _ _ (by omega)).ne _ _ _ (by omega)).ne _ _ _ (by omega)).below hb
    replace x := (x.put (X4) (Y4) (Z4)).below hb
    replace y := (((y.ne _ _ _ (by omega)).ne _ _ _ (by omega)).ne _ _ _ (by omega)).below hb
    replace B := (((B.setCell (p := ⟨w9.heap.size, 0, none⟩) nb_x _).setCell (p := ⟨w9.heap.size, 1, none⟩) nb_x _).setCell (p := ⟨w9.heap.size, 2, none⟩) nb_x _).trans (hb.mono (by have := B.size; simp <;> omega))
    clear hb lx cx0 cx1 cx2 fx0 fx1 fx2 lP1 cP10 cP11 cP12 lT3 cT30 cT31
    have lx := x.at3.lt; have cx0 := x.at3.c0; have cx1 := x.at3.c1; have cx2 := x.at3.c2; have fx0 := x.f0; have fx1 := x.f1; have fx2 := x.f2
    have ly := y.at3.lt; have cy0 := y.at3.c0; have cy1 := y.at3.c1; have cy2 := y.at3.c2; have fy0 := y.f0; have fy1 := y.f1; have fy2 := y.f2
    go_wp2_with fail
    go_ret
    refine ⟨rfl, BASE.trans (Below.mono (B := w0.heap.size) ?_ BASE.size)⟩
    exact (((B.setCell (p := ⟨w10.heap.size, 0, none⟩) nb_y _).setCell (p := ⟨w10.heap.size, 1, none⟩) nb_y _).setCell (p := ⟨w10.heap.size, 2, none⟩) nb_y _)
end Go.Proofs.Ythamkigdpgajaaa
