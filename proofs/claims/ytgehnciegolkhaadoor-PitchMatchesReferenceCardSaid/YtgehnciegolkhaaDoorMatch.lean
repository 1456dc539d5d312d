/-
  All functions of pitch return what the reference implementation returns: the law PitchMatchesReference returns true for all pitches, intervals and strings, valid or not, and leaves them as they were.
  Conditions: what the listed package variables hold when the call begins (the card ties it to the program's text).
-/
import Derived.Test.YtgehnciegolkhaaDoorLv
namespace Go.Proofs.YtgehnciegolkhaaDoor
open Go.RowKit

set_option maxHeartbeats 1600000 in
set_option maxRecDepth 100000 in
theorem pitchMatchesReference_walk (s a o p b q i t j u : Int) (S : ByteArray) (w : World) (hG : Glob w) :
    Calls Tryd.prog 3 #[.agg #[.int .i64 s, .int .i64 a, .int .i64 o], .agg #[.int .i64 p, .int .i64 b, .int .i64 q], .agg #[.int .i64 i, .int .i64 t], .agg #[.int .i64 j, .int .i64 u], .string S] w fun e w' => e = .returned (.bool true) ∧ Below w.heap.size w w' := by
  by_cases hl : S.size ≤ 100
  · have hl' : (S.size : Int) ≤ 100 := by omega
    obtain ⟨V, h1⟩ : ∃ r, Pt.pv s a o = r := ⟨_, rfl⟩
    obtain ⟨⟨A, E1⟩, h2⟩ : ∃ r, Pt.numR s a o = r := ⟨_, rfl⟩
    obtain ⟨⟨X1, Y1, Z1, E2⟩, h3⟩ : ∃ r, Pt.addR s a o i t = r := ⟨_, rfl⟩
    obtain ⟨⟨I1, T1, E3⟩, h4⟩ : ∃ r, Pt.betR s a o p b q = r := ⟨_, rfl⟩
    obtain ⟨⟨I2, T2, E4⟩, h5⟩ : ∃ r, Pt.joinR i t j u = r := ⟨_, rfl⟩
    obtain ⟨⟨I3, T3, E5⟩, h6⟩ : ∃ r, Pt.backR i t = r := ⟨_, rfl⟩
    obtain ⟨⟨R, E6⟩, h7⟩ : ∃ r, Tx.txR s a o = r := ⟨_, rfl⟩
    obtain ⟨⟨X2, Y2, Z2, E7⟩, h8⟩ : ∃ r, Tx.paR S = r := ⟨_, rfl⟩
    have H1 := Lib.hid h1; have H2 := Lib.hid h2; have H3 := Lib.hid h3; have H4 := Lib.hid h4
    have H5 := Lib.hid h5; have H6 := Lib.hid h6; have H7 := Lib.hid h7; have H8 := Lib.hid h8
    clear h1 h2 h3 h4 h5 h6 h7 h8
    have g0 := hG.lt
    have g2 := hG.ltp
    go_enter Tryd.func3, Tryd.ntmps3
    go_wp2_with fail
    have B := Below.refl w.heap.size w
    refine (head_any _ ((((hG.alloc _).alloc _).alloc _).alloc _)).mono ?_; rintro e w1 ⟨rfl, hb⟩
    have nb_P : w.heap.size ≤ w.heap.size := by have := B.size; omega
    have nb_Q : w.heap.size ≤ w.heap.size + 1 := by have := B.size; omega
    have nb_J : w.heap.size ≤ w.heap.size + 1 + 1 := by have := B.size; omega
    have nb_K : w.heap.size ≤ w.heap.size + 1 + 1 + 1 := by have := B.size; omega
    have P := ((((At3.new _ (s) (a) (o) _).alloc _).alloc _).alloc _).below hb
    have Q := At3.at (w.heap.size + 1) ((((At3.new _ (p) (b) (q) _).alloc _).alloc _).below hb) (by simp only [World.size_alloc])
    have J := At2.at (w.heap.size + 1 + 1) (((At2.new _ (i) (t) _).alloc _).below hb) (by simp only [World.size_alloc])
    have K := At2.at (w.heap.size + 1 + 1 + 1) ((At2.new _ (j) (u) _).below hb) (by simp only [World.size_alloc])
    replace hG := ((((hG.alloc _).alloc _).alloc _).alloc _).below hb
    replace B := ((((B.alloc (by have := B.size; simp <;> omega) _).alloc (by have := B.size; simp <;> omega) _).alloc (by have := B.size; simp <;> omega) _).alloc (by have := B.size; simp <;> omega) _).trans (hb.mono (by have := B.size; simp <;> omega))
    clear hb
    go_wp2_with fail
    go_cut [11] (fun s11 wc => s11 = .bool true ∧ Below w1.heap.size w1 wc)
    case first =>
      have xa0 := fun x : Ext w1 => x.cell P.c0
      have xa1 := fun x : Ext w1 => x.cell P.c1
      have xa2 := fun x : Ext w1 => x.cell P.c2
      have hne := Ext.there w1
      clear P Q J K hG B H2 H3 H4 H5 H6 H7 H8
      cases V
      all_goals
        refine Ext.region (by kernel_rfl) (by kernel_rfl) ?_
        repeat (go_big_quiet_step ((first | (go_at_call 10; with_reducible exact Ext.call _ (valid_is _ _ _ _ H1.out _)) | (go_at_call 11; with_reducible exact Ext.call _ (pvalid_is _ _ _ _ H1.out _)))))
        refine wpQuiet_nil ?_
        rintro _ ⟨xw, rfl⟩
        go_wp2_with fail
        go_meet
        exact ⟨rfl, xw.h⟩
    obtain ⟨rfl, hc⟩ := hcut
    replace P := P.below hc
    replace Q := Q.below hc
    replace J := J.below hc
    replace K := K.below hc
    replace hG := hG.below hc
    replace B := B.trans (hc.mono B.size)
    clear hc
    have lP := P.lt; have cP0 := P.c0; have cP1 := P.c1; have cP2 := P.c2
    go_wp2_with fail
    refine (number_is _ _ _ _ _ H2.out _ hG).mono ?_; rintro e w2 ⟨rfl, hb⟩
    replace P := P.below hb
    replace Q := Q.below hb
    replace J := J.below hb
    replace K := K.below hb
    replace hG := hG.below hb
    replace B := B.trans (hb.mono (by have := B.size; simp <;> omega))
    clear hb lP cP0 cP1 cP2
    have lP := P.lt; have cP0 := P.c0; have cP1 := P.c1; have cP2 := P.c2
    go_wp2_with fail
    refine (rnumber_is _ _ _ _ _ H2.out _).mono ?_; rintro e w3 ⟨rfl, hb⟩
    replace P := P.below hb
    replace Q := Q.below hb
    replace J := J.below hb
    replace K := K.below hb
    replace hG := hG.below hb
    replace B := B.trans (hb.mono (by have := B.size; simp <;> omega))
    clear hb lP cP0 cP1 cP2
    have lP := P.lt; have cP0 := P.c0; have cP1 := P.c1; have cP2 := P.c2
    have lJ := J.lt; have cJ0 := J.c0; have cJ1 := J.c1
    go_wp2_with fail
    refine (add_is _ _ _ _ _ _ _ _ _ H3.out _ hG).mono ?_; rintro e w4 ⟨rfl, hb⟩
    replace P := P.below hb
    replace Q := Q.below hb
    replace J := J.below hb
    replace K := K.below hb
    replace hG := hG.below hb
    replace B := B.trans (hb.mono (by have := B.size; simp <;> omega))
    clear hb lP cP0 cP1 cP2 lJ cJ0 cJ1
    have lP := P.lt; have cP0 := P.c0; have cP1 := P.c1; have cP2 := P.c2
    have lJ := J.lt; have cJ0 := J.c0; have cJ1 := J.c1
    go_wp2_with fail
    refine (radd_is _ _ _ _ _ _ _ _ _ H3.out _).mono ?_; rintro e w5 ⟨rfl, hb⟩
    have n_P_X : w.heap.size < w4.heap.size := by have := P.lt; omega
    have n_Q_X : w.heap.size + 1 < w4.heap.size := by have := Q.lt; omega
    have n_J_X : w.heap.size + 1 + 1 < w4.heap.size := by have := J.lt; omega
    have n_K_X : w.heap.size + 1 + 1 + 1 < w4.heap.size := by have := K.lt; omega
    have nb_X : w.heap.size ≤ w4.heap.size := by have := B.size; omega
    replace P := (P.alloc _).below hb
    replace Q := (Q.alloc _).below hb
    replace J := (J.alloc _).below hb
    replace K := (K.alloc _).below hb
    have X := (Var3.new _ (X1) (Y1) (Z1) _).below hb
    replace hG := (hG.alloc _).below hb
    replace B := (B.alloc (by have := B.size; simp <;> omega) _).trans (hb.mono (by have := B.size; simp <;> omega))
    clear hb lP cP0 cP1 cP2 lJ cJ0 cJ1
    have lP := P.lt; have cP0 := P.c0; have cP1 := P.c1; have cP2 := P.c2
    have lQ := Q.lt; have cQ0 := Q.c0; have cQ1 := Q.c1; have cQ2 := Q.c2
    have lX := X.at3.lt; have cX0 := X.at3.c0; have cX1 := X.at3.c1; have cX2 := X.at3.c2; have fX0 := X.f0; have fX1 := X.f1; have fX2 := X.f2
    go_wp2_with fail
    refine (between_is _ _ _ _ _ _ _ _ _ H4.out _ (hG.alloc _)).mono ?_; rintro e w6 ⟨rfl, hb⟩
    have n_P_Y : w.heap.size < w5.heap.size := by have := P.lt; omega
    have n_Q_Y : w.heap.size + 1 < w5.heap.size := by have := Q.lt; omega
    have n_J_Y : w.heap.size + 1 + 1 < w5.heap.size := by have := J.lt; omega
    have n_K_Y : w.heap.size + 1 + 1 + 1 < w5.heap.size := by have := K.lt; omega
    have n_X_Y : w4.heap.size < w5.heap.size := by have := X.at3.lt; omega
    have nb_Y : w.heap.size ≤ w5.heap.size := by have := B.size; omega
    replace P := (P.alloc _).below hb
    replace Q := (Q.alloc _).below hb
    replace J := (J.alloc _).below hb
    replace K := (K.alloc _).below hb
    replace X := (X.alloc _).below hb
    have Y := (Var3.new _ (X1) (Y1) (Z1) _).below hb
    replace hG := (hG.alloc _).below hb
    replace B := (B.alloc (by have := B.size; simp <;> omega) _).trans (hb.mono (by have := B.size; simp <;> omega))
    clear hb lP cP0 cP1 cP2 lQ cQ0 cQ1 cQ2 lX cX0 cX1 cX2 fX0 fX1 fX2
    have lP := P.lt; have cP0 := P.c0; have cP1 := P.c1; have cP2 := P.c2
    have lQ := Q.lt; have cQ0 := Q.c0; have cQ1 := Q.c1; have cQ2 := Q.c2
    go_wp2_with fail
    refine (rbetween_is _ _ _ _ _ _ _ _ _ H4.out _).mono ?_; rintro e w7 ⟨rfl, hb⟩
    have n_P_M : w.heap.size < w6.heap.size := by have := P.lt; omega
    have n_Q_M : w.heap.size + 1 < w6.heap.size := by have := Q.lt; omega
    have n_J_M : w.heap.size + 1 + 1 < w6.heap.size := by have := J.lt; omega
    have n_K_M : w.heap.size + 1 + 1 + 1 < w6.heap.size := by have := K.lt; omega
    have n_X_M : w4.heap.size < w6.heap.size := by have := X.at3.lt; omega
    have n_Y_M : w5.heap.size < w6.heap.size := by have := Y.at3.lt; omega
    have nb_M : w.heap.size ≤ w6.heap.size := by have := B.size; omega
    replace P := (P.alloc _).below hb
    replace Q := (Q.alloc _).below hb
    replace J := (J.alloc _).below hb
    replace K := (K.alloc _).below hb
    replace X := (X.alloc _).below hb
    replace Y := (Y.alloc _).below hb
    have M := (Var2.new _ (I1) (T1) _).below hb
    replace hG := (hG.alloc _).below hb
    replace B := (B.alloc (by have := B.size; simp <;> omega) _).trans (hb.mono (by have := B.size; simp <;> omega))
    clear hb lP cP0 cP1 cP2 lQ cQ0 cQ1 cQ2
    have lJ := J.lt; have cJ0 := J.c0; have cJ1 := J.c1
    have lK := K.lt; have cK0 := K.c0; have cK1 := K.c1
    have lM := M.at2.lt; have cM0 := M.at2.c0; have cM1 := M.at2.c1; have fM0 := M.f0; have fM1 := M.f1
    go_wp2_with fail
    refine (join_is _ _ _ _ _ _ _ H5.out _).mono ?_; rintro e w8 ⟨rfl, hb⟩
    have n_P_N : w.heap.size < w7.heap.size := by have := P.lt; omega
    have n_Q_N : w.heap.size + 1 < w7.heap.size := by have := Q.lt; omega
    have n_J_N : w.heap.size + 1 + 1 < w7.heap.size := by have := J.lt; omega
    have n_K_N : w.heap.size + 1 + 1 + 1 < w7.heap.size := by have := K.lt; omega
    have n_X_N : w4.heap.size < w7.heap.size := by have := X.at3.lt; omega
    have n_Y_N : w5.heap.size < w7.heap.size := by have := Y.at3.lt; omega
    have n_M_N : w6.heap.size < w7.heap.size := by have := M.at2.lt; omega
    have nb_N : w.heap.size ≤ w7.heap.size := by have := B.size; omega
    replace P := (P.alloc _).below hb
    replace Q := (Q.alloc _).below hb
    replace J := (J.alloc _).below hb
    replace K := (K.alloc _).below hb
    replace X := (X.alloc _).below hb
    replace Y := (Y.alloc _).below hb
    replace M := (M.alloc _).below hb
    have N := (Var2.new _ (I1) (T1) _).below hb
    replace hG := (hG.alloc _).below hb
    replace B := (B.alloc (by have := B.size; simp <;> omega) _).trans (hb.mono (by have := B.size; simp <;> omega))
    clear hb lJ cJ0 cJ1 lK cK0 cK1 lM cM0 cM1 fM0 fM1
    have lJ := J.lt; have cJ0 := J.c0; have cJ1 := J.c1
    have lK := K.lt; have cK0 := K.c0; have cK1 := K.c1
    have lM := M.at2.lt; have cM0 := M.at2.c0; have cM1 := M.at2.c1; have fM0 := M.f0; have fM1 := M.f1
    go_wp2_with fail
    refine (rjoin_is _ _ _ _ _ _ _ H5.out _).mono ?_; rintro e w9 ⟨rfl, hb⟩
    replace P := ((P.ne _ _ _ (by omega)).ne _ _ _ (by omega)).below hb
    replace Q := ((Q.ne _ _ _ (by omega)).ne _ _ _ (by omega)).below hb
    replace J := ((J.ne _ _ _ (by omega)).ne _ _ _ (by omega)).below hb
    replace K := ((K.ne _ _ _ (by omega)).ne _ _ _ (by omega)).below hb
    replace X := ((X.ne _ _ _ (by omega)).ne _ _ _ (by omega)).below hb
    replace Y := ((Y.ne _ _ _ (by omega)).ne _ _ _ (by omega)).below hb
    replace M := (M.put (I2) (T2)).below hb
    replace N := ((N.ne _ _ _ (by omega)).ne _ _ _ (by omega)).below hb
    replace hG := ((hG.ne _ _ _ (by omega) (by omega)).ne _ _ _ (by omega) (by omega)).below hb
    replace B := ((B.setCell (by simp <;> omega) _).setCell (by simp <;> omega) _).trans (hb.mono (by have := B.size; simp <;> omega))
    clear hb lJ cJ0 cJ1 lK cK0 cK1 lM cM0 cM1 fM0 fM1
    have lJ := J.lt; have cJ0 := J.c0; have cJ1 := J.c1
    have lM := M.at2.lt; have cM0 := M.at2.c0; have cM1 := M.at2.c1; have fM0 := M.f0; have fM1 := M.f1
    have lN := N.at2.lt; have cN0 := N.at2.c0; have cN1 := N.at2.c1; have fN0 := N.f0; have fN1 := N.f1
    go_wp2_with fail
    refine (back_is _ _ _ _ _ H6.out _).mono ?_; rintro e w10 ⟨rfl, hb⟩
    replace P := ((P.ne _ _ _ (by omega)).ne _ _ _ (by omega)).below hb
    replace Q := ((Q.ne _ _ _ (by omega)).ne _ _ _ (by omega)).below hb
    replace J := ((J.ne _ _ _ (by omega)).ne _ _ _ (by omega)).below hb
    replace K := ((K.ne _ _ _ (by omega)).ne _ _ _ (by omega)).below hb
    replace X := ((X.ne _ _ _ (by omega)).ne _ _ _ (by omega)).below hb
    replace Y := ((Y.ne _ _ _ (by omega)).ne _ _ _ (by omega)).below hb
    replace M := ((M.ne _ _ _ (by omega)).ne _ _ _ (by omega)).below hb
    replace N := (N.put (I2) (T2)).below hb
    replace hG := ((hG.ne _ _ _ (by omega) (by omega)).ne _ _ _ (by omega) (by omega)).below hb
    replace B := ((B.setCell (by simp <;> omega) _).setCell (by simp <;> omega) _).trans (hb.mono (by have := B.size; simp <;> omega))
    clear hb lJ cJ0 cJ1 lM cM0 cM1 fM0 fM1 lN cN0 cN1 fN0 fN1
    have lJ := J.lt; have cJ0 := J.c0; have cJ1 := J.c1
    have lM := M.at2.lt; have cM0 := M.at2.c0; have cM1 := M.at2.c1; have fM0 := M.f0; have fM1 := M.f1
    go_wp2_with fail
    refine (rback_is _ _ _ _ _ H6.out _).mono ?_; rintro e w11 ⟨rfl, hb⟩
    replace P := ((P.ne _ _ _ (by omega)).ne _ _ _ (by omega)).below hb
    replace Q := ((Q.ne _ _ _ (by omega)).ne _ _ _ (by omega)).below hb
    replace J := ((J.ne _ _ _ (by omega)).ne _ _ _ (by omega)).below hb
    replace K := ((K.ne _ _ _ (by omega)).ne _ _ _ (by omega)).below hb
    replace X := ((X.ne _ _ _ (by omega)).ne _ _ _ (by omega)).below hb
    replace Y := ((Y.ne _ _ _ (by omega)).ne _ _ _ (by omega)).below hb
    replace M := (M.put (I3) (T3)).below hb
    replace N := ((N.ne _ _ _ (by omega)).ne _ _ _ (by omega)).below hb
    replace hG := ((hG.ne _ _ _ (by omega) (by omega)).ne _ _ _ (by omega) (by omega)).below hb
    replace B := ((B.setCell (by simp <;> omega) _).setCell (by simp <;> omega) _).trans (hb.mono (by have := B.size; simp <;> omega))
    clear hb lJ cJ0 cJ1 lM cM0 cM1 fM0 fM1
    have lP := P.lt; have cP0 := P.c0; have cP1 := P.c1; have cP2 := P.c2
    have lM := M.at2.lt; have cM0 := M.at2.c0; have cM1 := M.at2.c1; have fM0 := M.f0; have fM1 := M.f1
    have lN := N.at2.lt; have cN0 := N.at2.c0; have cN1 := N.at2.c1; have fN0 := N.f0; have fN1 := N.f1
    go_wp2_with fail
    refine (text_is _ _ _ _ _ H7.out _ ((hG.ne _ _ _ (by omega) (by omega)).ne _ _ _ (by omega) (by omega))).mono ?_; rintro e w12 ⟨rfl, hb⟩
    replace P := ((P.ne _ _ _ (by omega)).ne _ _ _ (by omega)).below hb
    replace Q := ((Q.ne _ _ _ (by omega)).ne _ _ _ (by omega)).below hb
    replace J := ((J.ne _ _ _ (by omega)).ne _ _ _ (by omega)).below hb
    replace K := ((K.ne _ _ _ (by omega)).ne _ _ _ (by omega)).below hb
    replace X := ((X.ne _ _ _ (by omega)).ne _ _ _ (by omega)).below hb
    replace Y := ((Y.ne _ _ _ (by omega)).ne _ _ _ (by omega)).below hb
    replace M := ((M.ne _ _ _ (by omega)).ne _ _ _ (by omega)).below hb
    replace N := (N.put (I3) (T3)).below hb
    replace hG := ((hG.ne _ _ _ (by omega) (by omega)).ne _ _ _ (by omega) (by omega)).below hb
    replace B := ((B.setCell (by simp <;> omega) _).setCell (by simp <;> omega) _).trans (hb.mono (by have := B.size; simp <;> omega))
    clear hb lP cP0 cP1 cP2 lM cM0 cM1 fM0 fM1 lN cN0 cN1 fN0 fN1
    have lP := P.lt; have cP0 := P.c0; have cP1 := P.c1; have cP2 := P.c2
    go_wp2_with fail
    refine (rtext_is _ _ _ _ _ H7.out _).mono ?_; rintro e w13 ⟨rfl, hb⟩
    replace P := P.below hb
    replace Q := Q.below hb
    replace J := J.below hb
    replace K := K.below hb
    replace X := X.below hb
    replace Y := Y.below hb
    replace M := M.below hb
    replace N := N.below hb
    replace hG := hG.below hb
    replace B := B.trans (hb.mono (by have := B.size; simp <;> omega))
    clear hb lP cP0 cP1 cP2
    go_wp2_with fail
    refine (parse_is _ _ _ _ _ H8.out _ hG).mono ?_; rintro e w14 ⟨rfl, hb⟩
    replace P := P.below hb
    replace Q := Q.below hb
    replace J := J.below hb
    replace K := K.below hb
    replace X := X.below hb
    replace Y := Y.below hb
    replace M := M.below hb
    replace N := N.below hb
    replace hG := hG.below hb
    replace B := B.trans (hb.mono (by have := B.size; simp <;> omega))
    clear hb
    have lX := X.at3.lt; have cX0 := X.at3.c0; have cX1 := X.at3.c1; have cX2 := X.at3.c2; have fX0 := X.f0; have fX1 := X.f1; have fX2 := X.f2
    go_wp2_with fail
    refine (rparse_is _ _ _ _ _ H8.out (by omega) _).mono ?_; rintro e w15 ⟨rfl, hb⟩
    replace P := (((P.ne _ _ _ (by omega)).ne _ _ _ (by omega)).ne _ _ _ (by omega)).below hb
    replace Q := (((Q.ne _ _ _ (by omega)).ne _ _ _ (by omega)).ne _ _ _ (by omega)).below hb
    replace J := (((J.ne _ _ _ (by omega)).ne _ _ _ (by omega)).ne _ _ _ (by omega)).below hb
    replace K := (((K.ne _ _ _ (by omega)).ne _ _ _ (by omega)).ne _ _ _ (by omega)).below hb
    replace X := (X.put (X2) (Y2) (Z2)).below hb
    replace Y := (((Y.ne _ _ _ (by omega)).ne _ _ _ (by omega)).ne _ _ _ (by omega)).below hb
    replace M := (((M.ne _ _ _ (by omega)).ne _ _ _ (by omega)).ne _ _ _ (by omega)).below hb
    replace N := (((N.ne _ _ _ (by omega)).ne _ _ _ (by omega)).ne _ _ _ (by omega)).below hb
    replace hG := (((hG.ne _ _ _ (by omega) (by omega)).ne _ _ _ (by omega) (by omega)).ne _ _ _ (by omega) (by omega)).below hb
    replace B := (((B.setCell (by simp <;> omega) _).setCell (by simp <;> omega) _).setCell (by simp <;> omega) _).trans (hb.mono (by have := B.size; simp <;> omega))
    clear hb lX cX0 cX1 cX2 fX0 fX1 fX2
    have lX := X.at3.lt; have cX0 := X.at3.c0; have cX1 := X.at3.c1; have cX2 := X.at3.c2; have fX0 := X.f0; have fX1 := X.f1; have fX2 := X.f2
    have lY := Y.at3.lt; have cY0 := Y.at3.c0; have cY1 := Y.at3.c1; have cY2 := Y.at3.c2; have fY0 := Y.f0; have fY1 := Y.f1; have fY2 := Y.f2
    go_wp2_with fail
    go_ret
    exact ⟨rfl, (((B.setCell (by simp <;> omega) _).setCell (by simp <;> omega) _).setCell (by simp <;> omega) _)⟩
  · have hl' : ¬ (S.size : Int) ≤ 100 := by omega
    go_enter Tryd.func3, Tryd.ntmps3
    go_wp2_with fail
    have B := Below.refl w.heap.size w
    refine (head_any _ ((((hG.alloc _).alloc _).alloc _).alloc _)).mono ?_; rintro e w1 ⟨rfl, hb⟩
    have P := ((((At3.new _ (s) (a) (o) _).alloc _).alloc _).alloc _).below hb
    have Q := At3.at (w.heap.size + 1) ((((At3.new _ (p) (b) (q) _).alloc _).alloc _).below hb) (by simp only [World.size_alloc])
    have J := At2.at (w.heap.size + 1 + 1) (((At2.new _ (i) (t) _).alloc _).below hb) (by simp only [World.size_alloc])
    have K := At2.at (w.heap.size + 1 + 1 + 1) ((At2.new _ (j) (u) _).below hb) (by simp only [World.size_alloc])
    replace hG := ((((hG.alloc _).alloc _).alloc _).alloc _).below hb
    replace B := ((((B.alloc (by have := B.size; simp <;> omega) _).alloc (by have := B.size; simp <;> omega) _).alloc (by have := B.size; simp <;> omega) _).alloc (by have := B.size; simp <;> omega) _).trans (hb.mono (by have := B.size; simp <;> omega))
    clear hb
    go_wp2_with fail
    go_ret
    exact ⟨rfl, B⟩
end Go.Proofs.YtgehnciegolkhaaDoor
