/-
  The fifths of two intervals, one after the other, are those of both added, and the opposite interval has the opposite fifths: the law KeyAdds returns true for every two intervals, well-formed or not, and leaves them as they were.
  Conditions: what the listed package variables hold when the call begins (the card ties it to the program's text).
-/
import Derived.Test.YtnjacgjcoikngaaDoorKz
namespace Go.Proofs.YtnjacgjcoikngaaDoor
open Go.RowKit

set_option maxHeartbeats 1600000 in
set_option maxRecDepth 100000 in
theorem keyAdds_walk (i t j u : Int) (w : World) (hG : GK w) :
    Calls Tryd.prog 8 #[.agg #[.int .i64 i, .int .i64 t], .agg #[.int .i64 j, .int .i64 u]] w fun e w' => e = .returned (.bool true) ∧ Below w.heap.size w w' := by
  obtain ⟨⟨M, N, E⟩, h1⟩ : ∃ r, Pt.joinR i t j u = r := ⟨_, rfl⟩
  obtain ⟨⟨I, T, F⟩, h2⟩ : ∃ r, Pt.backR i t = r := ⟨_, rfl⟩
  obtain ⟨v1, hv1⟩ : ∃ v, Pt.iv i t = v := ⟨_, rfl⟩
  obtain ⟨v2, hv2⟩ : ∃ v, Pt.iv j u = v := ⟨_, rfl⟩
  have H1 := Lib.hid h1
  have H2 := Lib.hid h2
  have V1 := Lib.hid hv1
  have V2 := Lib.hid hv2
  cases v1 with
  | false =>
    clear h1 h2 hv1 hv2
    go_enter Tryd.func8, Tryd.ntmps8
    go_wp2_with fail
    have B := Below.refl w.heap.size w
    refine (head_any _ ((hG.alloc _).alloc _)).mono ?_; rintro e w1 ⟨rfl, hb⟩
    have P := ((At2.new _ (i) (t) _).alloc _).below hb
    have Q := (At2.new _ (j) (u) _).below hb
    simp only [World.size_alloc] at Q
    replace hG := ((hG.alloc _).alloc _).below hb
    replace B := ((B.alloc (by have := B.size; simp <;> omega) _).alloc (by have := B.size; simp <;> omega) _).trans (hb.mono (by have := B.size; simp <;> omega))
    clear hb
    have lP := P.lt; have cP0 := P.c0; have cP1 := P.c1
    have lQ := Q.lt; have cQ0 := Q.c0; have cQ1 := Q.c1
    go_wp2_with fail
    refine (join_is _ _ _ _ _ _ _ H1.out _).mono ?_; rintro e w2 ⟨rfl, hb⟩
    replace P := P.below hb
    replace Q := Q.below hb
    replace hG := hG.below hb
    replace B := B.trans (hb.mono (by have := B.size; simp <;> omega))
    clear hb lP cP0 cP1 lQ cQ0 cQ1
    have lP := P.lt; have cP0 := P.c0; have cP1 := P.c1
    go_wp2_with fail
    refine (back_is _ _ _ _ _ H2.out _).mono ?_; rintro e w3 ⟨rfl, hb⟩
    replace P := (P.alloc _).below hb
    replace Q := (Q.alloc _).below hb
    have R := (At2.new _ (M) (N) _).below hb
    replace hG := (hG.alloc _).below hb
    replace B := (B.alloc (by have := B.size; simp <;> omega) _).trans (hb.mono (by have := B.size; simp <;> omega))
    clear hb lP cP0 cP1
    have lP := P.lt; have cP0 := P.c0; have cP1 := P.c1
    go_wp2_with fail
    refine (kinterval_is _ _ _ V1.out _).mono ?_; rintro e w4 ⟨rfl, hb⟩
    replace P := (P.alloc _).below hb
    replace Q := (Q.alloc _).below hb
    replace R := (R.alloc _).below hb
    have S := (At2.new _ (I) (T) _).below hb
    replace hG := (hG.alloc _).below hb
    replace B := (B.alloc (by have := B.size; simp <;> omega) _).trans (hb.mono (by have := B.size; simp <;> omega))
    clear hb lP cP0 cP1
    have lQ := Q.lt; have cQ0 := Q.c0; have cQ1 := Q.c1
    go_wp2_with fail
    go_ret
    exact ⟨rfl, B⟩
  | true =>
    cases v2 with
    | false =>
      clear h1 h2 hv1 hv2
      go_enter Tryd.func8, Tryd.ntmps8
      go_wp2_with fail
      have B := Below.refl w.heap.size w
      refine (head_any _ ((hG.alloc _).alloc _)).mono ?_; rintro e w1 ⟨rfl, hb⟩
      have P := ((At2.new _ (i) (t) _).alloc _).below hb
      have Q := (At2.new _ (j) (u) _).below hb
      simp only [World.size_alloc] at Q
      replace hG := ((hG.alloc _).alloc _).below hb
      replace B := ((B.alloc (by have := B.size; simp <;> omega) _).alloc (by have := B.size; simp <;> omega) _).trans (hb.mono (by have := B.size; simp <;> omega))
      clear hb
      have lP := P.lt; have cP0 := P.c0; have cP1 := P.c1
      have lQ := Q.lt; have cQ0 := Q.c0; have cQ1 := Q.c1
      go_wp2_with fail
      refine (join_is _ _ _ _ _ _ _ H1.out _).mono ?_; rintro e w2 ⟨rfl, hb⟩
      replace P := P.below hb
      replace Q := Q.below hb
      replace hG := hG.below hb
      replace B := B.trans (hb.mono (by have := B.size; simp <;> omega))
      clear hb lP cP0 cP1 lQ cQ0 cQ1
      have lP := P.lt; have cP0 := P.c0; have cP1 := P.c1
      go_wp2_with fail
      refine (back_is _ _ _ _ _ H2.out _).mono ?_; rintro e w3 ⟨rfl, hb⟩
      replace P := (P.alloc _).below hb
      replace Q := (Q.alloc _).below hb
      have R := (At2.new _ (M) (N) _).below hb
      replace hG := (hG.alloc _).below hb
      replace B := (B.alloc (by have := B.size; simp <;> omega) _).trans (hb.mono (by have := B.size; simp <;> omega))
      clear hb lP cP0 cP1
      have lP := P.lt; have cP0 := P.c0; have cP1 := P.c1
      go_wp2_with fail
      refine (kinterval_is _ _ _ V1.out _).mono ?_; rintro e w4 ⟨rfl, hb⟩
      replace P := (P.alloc _).below hb
      replace Q := (Q.alloc _).below hb
      replace R := (R.alloc _).below hb
      have S := (At2.new _ (I) (T) _).below hb
      replace hG := (hG.alloc _).below hb
      replace B := (B.alloc (by have := B.size; simp <;> omega) _).trans (hb.mono (by have := B.size; simp <;> omega))
      clear hb lP cP0 cP1
      have lQ := Q.lt; have cQ0 := Q.c0; have cQ1 := Q.c1
      go_wp2_with fail
      refine (kinterval_is _ _ _ V2.out _).mono ?_; rintro e w5 ⟨rfl, hb⟩
      replace P := P.below hb
      replace Q := Q.below hb
      replace R := R.below hb
      replace S := S.below hb
      replace hG := hG.below hb
      replace B := B.trans (hb.mono (by have := B.size; simp <;> omega))
      clear hb lQ cQ0 cQ1
      go_wp2_with fail
      go_ret
      exact ⟨rfl, B⟩
    | true =>
      obtain ⟨l1, l2, l3, l4⟩ := Pt.iv_iff.1 hv1
      obtain ⟨m1, m2, m3, m4⟩ := Pt.iv_iff.1 hv2
      unfold Pt.backR at h2
      rw [if_pos hv1] at h2
      simp only [Prod.mk.injEq] at h2
      obtain ⟨rfl, rfl, rfl⟩ := h2
      obtain ⟨X, hX⟩ : ∃ X, 7 * t - 12 * i = X := ⟨_, rfl⟩
      obtain ⟨Y, hY⟩ : ∃ Y, 7 * u - 12 * j = Y := ⟨_, rfl⟩
      have FX : Hid (Ky.fifR i t = (X, 0)) := Lib.hid (by rw [Ky.fif_of hv1, hX])
      have FY : Hid (Ky.fifR j u = (Y, 0)) := Lib.hid (by rw [Ky.fif_of hv2, hY])
      have FW : Hid (Ky.fifR (-i) (-t) = (-X, 0)) := Lib.hid (by rw [Ky.fif_of (by rw [Pt.iv_neg]; exact hv1), ← hX, Prod.mk.injEq]; exact ⟨by omega, rfl⟩)
      have x1 : -10000 ≤ X ∧ X ≤ 10000 := by omega
      have y1 : -10000 ≤ Y ∧ Y ≤ 10000 := by omega
      by_cases hE : E = 0
      · subst hE
        obtain ⟨_, _, hv3, rfl, rfl⟩ := Pt.join_ok h1
        have FZ : Hid (Ky.fifR (i + j) (t + u) = (X + Y, 0)) := Lib.hid (by rw [Ky.fif_of hv3, ← hX, ← hY, Prod.mk.injEq]; exact ⟨by omega, rfl⟩)
        clear h1 hv1 hv2 hv3 hX hY l1 l2 l3 l4 m1 m2 m3 m4
        obtain ⟨x1, x2⟩ := x1
        obtain ⟨y1, y2⟩ := y1
        go_enter Tryd.func8, Tryd.ntmps8
        go_wp2_with fail
        have B := Below.refl w.heap.size w
        refine (head_any _ ((hG.alloc _).alloc _)).mono ?_; rintro e w1 ⟨rfl, hb⟩
        have P := ((At2.new _ (i) (t) _).alloc _).below hb
        have Q := (At2.new _ (j) (u) _).below hb
        simp only [World.size_alloc] at Q
        replace hG := ((hG.alloc _).alloc _).below hb
        replace B := ((B.alloc (by have := B.size; simp <;> omega) _).alloc (by have := B.size; simp <;> omega) _).trans (hb.mono (by have := B.size; simp <;> omega))
        clear hb
        have lP := P.lt; have cP0 := P.c0; have cP1 := P.c1
        have lQ := Q.lt; have cQ0 := Q.c0; have cQ1 := Q.c1
        go_wp2_with fail
        refine (join_is _ _ _ _ _ _ _ H1.out _).mono ?_; rintro e w2 ⟨rfl, hb⟩
        replace P := P.below hb
        replace Q := Q.below hb
        replace hG := hG.below hb
        replace B := B.trans (hb.mono (by have := B.size; simp <;> omega))
        clear hb lP cP0 cP1 lQ cQ0 cQ1
        have lP := P.lt; have cP0 := P.c0; have cP1 := P.c1
        go_wp2_with fail
        refine (back_is _ _ _ _ _ H2.out _).mono ?_; rintro e w3 ⟨rfl, hb⟩
        replace P := (P.alloc _).below hb
        replace Q := (Q.alloc _).below hb
        have R := (At2.new _ (i + j) (t + u) _).below hb
        replace hG := (hG.alloc _).below hb
        replace B := (B.alloc (by have := B.size; simp <;> omega) _).trans (hb.mono (by have := B.size; simp <;> omega))
        clear hb lP cP0 cP1
        have lP := P.lt; have cP0 := P.c0; have cP1 := P.c1
        go_wp2_with fail
        refine (kinterval_is _ _ _ V1.out _).mono ?_; rintro e w4 ⟨rfl, hb⟩
        replace P := (P.alloc _).below hb
        replace Q := (Q.alloc _).below hb
        replace R := (R.alloc _).below hb
        have S := (At2.new _ (-i) (-t) _).below hb
        replace hG := (hG.alloc _).below hb
        replace B := (B.alloc (by have := B.size; simp <;> omega) _).trans (hb.mono (by have := B.size; simp <;> omega))
        clear hb lP cP0 cP1
        have lQ := Q.lt; have cQ0 := Q.c0; have cQ1 := Q.c1
        go_wp2_with fail
        refine (kinterval_is _ _ _ V2.out _).mono ?_; rintro e w5 ⟨rfl, hb⟩
        replace P := P.below hb
        replace Q := Q.below hb
        replace R := R.below hb
        replace S := S.below hb
        replace hG := hG.below hb
        replace B := B.trans (hb.mono (by have := B.size; simp <;> omega))
        clear hb lQ cQ0 cQ1
        have lP := P.lt; have cP0 := P.c0; have cP1 := P.c1
        go_wp2_with fail
        refine (fifths_is _ _ _ _ FX.out _).mono ?_; rintro e w6 ⟨rfl, hb⟩
        replace P := P.below hb
        replace Q := Q.below hb
        replace R := R.below hb
        replace S := S.below hb
        replace hG := hG.below hb
        replace B := B.trans (hb.mono (by have := B.size; simp <;> omega))
        clear hb lP cP0 cP1
        have lQ := Q.lt; have cQ0 := Q.c0; have cQ1 := Q.c1
        go_wp2_with fail
        refine (fifths_is _ _ _ _ FY.out _).mono ?_; rintro e w7 ⟨rfl, hb⟩
        replace P := P.below hb
        replace Q := Q.below hb
        replace R := R.below hb
        replace S := S.below hb
        replace hG := hG.below hb
        replace B := B.trans (hb.mono (by have := B.size; simp <;> omega))
        clear hb lQ cQ0 cQ1
        have lS := S.lt; have cS0 := S.c0; have cS1 := S.c1
        go_wp2_with fail
        refine (fifths_is _ _ _ _ FW.out _).mono ?_; rintro e w8 ⟨rfl, hb⟩
        replace P := P.below hb
        replace Q := Q.below hb
        replace R := R.below hb
        replace S := S.below hb
        replace hG := hG.below hb
        replace B := B.trans (hb.mono (by have := B.size; simp <;> omega))
        clear hb lS cS0 cS1
        have lR := R.lt; have cR0 := R.c0; have cR1 := R.c1
        go_wp2_with fail
        refine (fifths_is _ _ _ _ FZ.out _).mono ?_; rintro e w9 ⟨rfl, hb⟩
        replace P := P.below hb
        replace Q := Q.below hb
        replace R := R.below hb
        replace S := S.below hb
        replace hG := hG.below hb
        replace B := B.trans (hb.mono (by have := B.size; simp <;> omega))
        clear hb lR cR0 cR1
        go_wp2_with fail
        go_ret
        exact ⟨rfl, B⟩
      · have e3 : E = 3 ∧ M = 0 ∧ N = 0 := by
          unfold Pt.joinR at h1
          rw [hv1, hv2] at h1
          simp only [Bool.and_self, if_true] at h1
          split at h1 <;> simp only [Prod.mk.injEq] at h1 <;> omega
        obtain ⟨rfl, rfl, rfl⟩ := e3
        clear h1 hv1 hv2 hX hY l1 l2 l3 l4 m1 m2 m3 m4 hE
        obtain ⟨x1, x2⟩ := x1
        obtain ⟨y1, y2⟩ := y1
        go_enter Tryd.func8, Tryd.ntmps8
        go_wp2_with fail
        have B := Below.refl w.heap.size w
        refine (head_any _ ((hG.alloc _).alloc _)).mono ?_; rintro e w1 ⟨rfl, hb⟩
        have P := ((At2.new _ (i) (t) _).alloc _).below hb
        have Q := (At2.new _ (j) (u) _).below hb
        simp only [World.size_alloc] at Q
        replace hG := ((hG.alloc _).alloc _).below hb
        replace B := ((B.alloc (by have := B.size; simp <;> omega) _).alloc (by have := B.size; simp <;> omega) _).trans (hb.mono (by have := B.size; simp <;> omega))
        clear hb
        have lP := P.lt; have cP0 := P.c0; have cP1 := P.c1
        have lQ := Q.lt; have cQ0 := Q.c0; have cQ1 := Q.c1
        go_wp2_with fail
        refine (join_is _ _ _ _ _ _ _ H1.out _).mono ?_; rintro e w2 ⟨rfl, hb⟩
        replace P := P.below hb
        replace Q := Q.below hb
        replace hG := hG.below hb
        replace B := B.trans (hb.mono (by have := B.size; simp <;> omega))
        clear hb lP cP0 cP1 lQ cQ0 cQ1
        have lP := P.lt; have cP0 := P.c0; have cP1 := P.c1
        go_wp2_with fail
        refine (back_is _ _ _ _ _ H2.out _).mono ?_; rintro e w3 ⟨rfl, hb⟩
        replace P := (P.alloc _).below hb
        replace Q := (Q.alloc _).below hb
        have R := (At2.new _ (0) (0) _).below hb
        replace hG := (hG.alloc _).below hb
        replace B := (B.alloc (by have := B.size; simp <;> omega) _).trans (hb.mono (by have := B.size; simp <;> omega))
        clear hb lP cP0 cP1
        have lP := P.lt; have cP0 := P.c0; have cP1 := P.c1
        go_wp2_with fail
        refine (kinterval_is _ _ _ V1.out _).mono ?_; rintro e w4 ⟨rfl, hb⟩
        replace P := (P.alloc _).below hb
        replace Q := (Q.alloc _).below hb
        replace R := (R.alloc _).below hb
        have S := (At2.new _ (-i) (-t) _).below hb
        replace hG := (hG.alloc _).below hb
        replace B := (B.alloc (by have := B.size; simp <;> omega) _).trans (hb.mono (by have := B.size; simp <;> omega))
        clear hb lP cP0 cP1
        have lQ := Q.lt; have cQ0 := Q.c0; have cQ1 := Q.c1
        go_wp2_with fail
        refine (kinterval_is _ _ _ V2.out _).mono ?_; rintro e w5 ⟨rfl, hb⟩
        replace P := P.below hb
        replace Q := Q.below hb
        replace R := R.below hb
        replace S := S.below hb
        replace hG := hG.below hb
        replace B := B.trans (hb.mono (by have := B.size; simp <;> omega))
        clear hb lQ cQ0 cQ1
        have lP := P.lt; have cP0 := P.c0; have cP1 := P.c1
        go_wp2_with fail
        refine (fifths_is _ _ _ _ FX.out _).mono ?_; rintro e w6 ⟨rfl, hb⟩
        replace P := P.below hb
        replace Q := Q.below hb
        replace R := R.below hb
        replace S := S.below hb
        replace hG := hG.below hb
        replace B := B.trans (hb.mono (by have := B.size; simp <;> omega))
        clear hb lP cP0 cP1
        have lQ := Q.lt; have cQ0 := Q.c0; have cQ1 := Q.c1
        go_wp2_with fail
        refine (fifths_is _ _ _ _ FY.out _).mono ?_; rintro e w7 ⟨rfl, hb⟩
        replace P := P.below hb
        replace Q := Q.below hb
        replace R := R.below hb
        replace S := S.below hb
        replace hG := hG.below hb
        replace B := B.trans (hb.mono (by have := B.size; simp <;> omega))
        clear hb lQ cQ0 cQ1
        have lS := S.lt; have cS0 := S.c0; have cS1 := S.c1
        go_wp2_with fail
        refine (fifths_is _ _ _ _ FW.out _).mono ?_; rintro e w8 ⟨rfl, hb⟩
        replace P := P.below hb
        replace Q := Q.below hb
        replace R := R.below hb
        replace S := S.below hb
        replace hG := hG.below hb
        replace B := B.trans (hb.mono (by have := B.size; simp <;> omega))
        clear hb lS cS0 cS1
        have lR := R.lt; have cR0 := R.c0; have cR1 := R.c1
        go_wp2_with fail
        go_ret
        exact ⟨rfl, B⟩
end Go.Proofs.YtnjacgjcoikngaaDoor
