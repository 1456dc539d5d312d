/- The walk of the reference's Add. -/
import Derived.Test.YtgehnciegolkhaaDoorPk
import Derived.Test.YtgehnciegolkhaaDoorTail
namespace Go.Proofs.YtgehnciegolkhaaDoor
open Go.RowKit

theorem rgenW {P : Program} {c : Code} {Q : Exit → Act → World → Prop} {a : Act} {W : World} (R : World → Prop) (h : ∀ we, R we → c.wp P Q a we) (hR : R W) : c.wp P Q a W := h W hR
theorem Var3.rset1 {w : World} {b : Nat} {x y z : Int} (h : Var3 w b x y z) (v : Int) : Var3 (w.setCell ⟨b, 1, none⟩ (.int .i64 v)) b x v z := by
  obtain ⟨⟨l, c0, c1, c2⟩, f0, f1, f2⟩ := h
  refine ⟨⟨?_, ?_, ?_, ?_⟩, ?_, ?_, ?_⟩
  · simpa using l
  all_goals go_simp
theorem Var3.rsetNe {w : World} {b c k : Nat} {x y z : Int} (h : Var3 w b x y z) (u : Value) (hne : b ≠ c) : Var3 (w.setCell ⟨c, k, none⟩ u) b x y z := by
  obtain ⟨⟨l, c0, c1, c2⟩, f0, f1, f2⟩ := h
  have hne' : ¬ c = b := fun e => hne e.symm
  refine ⟨⟨?_, ?_, ?_, ?_⟩, ?_, ?_, ?_⟩
  · simpa using l
  all_goals go_simp

set_option maxHeartbeats 1600000 in
theorem radd_is (s a o i t X Y Z E : Int) (h : Pt.addR s a o i t = (X, Y, Z, E)) (w : World) :
    Calls Tryd.prog 15 #[.agg #[.int .i64 s, .int .i64 a, .int .i64 o], .agg #[.int .i64 i, .int .i64 t]] w fun e w' => e = .returned (.tuple #[.agg #[.int .i64 X, .int .i64 Y, .int .i64 Z], .int .i64 E]) ∧ Below w.heap.size w w' := by
  unfold Pt.addR at h
  by_cases hv : (Pt.pv s a o && Pt.iv i t) = true
  · rw [if_pos hv] at h
    simp only [Bool.and_eq_true] at hv
    have HV := Lib.hid hv.1
    have HU := Lib.hid hv.2
    obtain ⟨⟨l1, l2, l3, l4, l5, l6⟩, m1, m2, m3, m4⟩ := And.intro (Pt.pv_iff.1 hv.1) (Pt.iv_iff.1 hv.2)
    clear hv
    have n1 := Pt.natI_in l1 l2
    have k1 : -1000 ≤ Pt.snd s a o ∧ Pt.snd s a o ≤ 1000 := by unfold Pt.snd; omega
    have QA : PGood s a o (7 * o + s) (Pt.snd s a o) := ⟨rfl, rfl, by omega, by omega, by omega, by omega, by omega, by omega⟩
    have lP : -1000 ≤ 7 * o + s + i ∧ 7 * o + s + i ≤ 1000 := by omega
    have T1 := Int.mul_tdiv_add_tmod (7 * o + s + i) 7
    have T2 := Int.tmod_lt_of_pos (7 * o + s + i) (b := 7) (by omega)
    have T3 := Int.lt_tmod_of_pos (7 * o + s + i) (b := 7) (by omega)
    have hw1 : IntKind.i64.wrap ((7 * o + s + i).tdiv 7) = (7 * o + s + i).tdiv 7 := by rw [IntKind.wrap_i64]; omega
    have hw2 : IntKind.i64.wrap ((7 * o + s + i).tmod 7) = (7 * o + s + i).tmod 7 := by rw [IntKind.wrap_i64]; omega
    have lD1 : -2000 ≤ (7 * o + s + i).tdiv 7 := by omega
    have lD2 : (7 * o + s + i).tdiv 7 ≤ 2000 := by omega
    obtain ⟨q, hq⟩ : ∃ q, (7 * o + s + i) / 7 = q := ⟨_, rfl⟩
    obtain ⟨r, hr⟩ : ∃ r, (7 * o + s + i) % 7 = r := ⟨_, rfl⟩
    unfold Pt.mA Pt.mS Pt.mO Pt.place at h
    rw [hq, hr] at h
    have q1 : 0 ≤ r := by omega
    have q2 : r ≤ 6 := by omega
    have q3 : -1000 ≤ q ∧ q ≤ 1000 := by omega
    have n2 := Pt.natI_in q1 q2
    have k2 : -20000 ≤ Pt.snd r 0 q ∧ Pt.snd r 0 q ≤ 20000 := by unfold Pt.snd; omega
    have QB : PGood r 0 q (7 * q + r) (Pt.snd r 0 q) := ⟨rfl, rfl, by omega, by omega, q3.1, q3.2, by omega, by omega⟩
    have eR : r = (7 * o + s + i).tmod 7 ∧ q = (7 * o + s + i).tdiv 7 ∧ ¬ (7 * o + s + i).tmod 7 < 0 ∨ r = (7 * o + s + i).tmod 7 + 7 ∧ q = (7 * o + s + i).tdiv 7 - 1 ∧ (7 * o + s + i).tmod 7 < 0 := by omega
    have lP0 : -1000 ≤ 7 * o + s ∧ 7 * o + s ≤ 1000 := by omega
    clear l1 l2 l3 l4 l5 l6 n1 n2 hq hr T1
    obtain ⟨⟨k1, k3⟩, ⟨k2, k4⟩, ⟨q3, q4⟩, ⟨lP, kP⟩, lP0, kP0⟩ := And.intro k1 (And.intro k2 (And.intro q3 (And.intro lP lP0)))
    generalize Pt.snd s a o = N1 at *
    generalize Pt.snd r 0 q = N2 at *
    generalize 7 * q + r = P2 at *
    generalize 7 * o + s = P at *
    go_enter Tryd.func15, Tryd.ntmps15
    go_wp2_with fail
    refine (pvalid_is _ _ _ _ HV.out _).mono ?_; rintro e w1 ⟨rfl, hb1⟩
    have S1 : w.heap.size + 3 ≤ w1.heap.size := by have := hb1.size; simp at this; omega
    have A := (((At3.new w s a o _).alloc _).alloc _).below hb1
    have B := ((At2.new (w.alloc _) i t _).alloc _).below hb1
    have V := (Var3.new ((w.alloc _).alloc _) 0 0 0 _).below hb1
    have G : Below w.heap.size w w1 := ((((Below.refl _ _).alloc (Nat.le_refl _) _).alloc (by simp) _).alloc (by simp; omega) _).trans (hb1.mono (by simp; omega))
    simp only [World.size_alloc] at B V
    clear hb1
    obtain ⟨b0, b1⟩ := And.intro B.c0 B.c1
    go_wp2_with fail
    refine (form_is _ _ _ HU.out _).mono ?_; rintro e w2 ⟨rfl, hb2⟩
    replace A := A.below hb2
    replace B := B.below hb2
    replace V := V.below hb2
    replace G := G.trans (hb2.mono (by omega))
    have S2 : w.heap.size + 3 ≤ w2.heap.size := by have := hb2.size; omega
    clear b0 b1 hb2
    have xa0 := fun x : Ext w2 => x.cell A.c0
    have xa1 := fun x : Ext w2 => x.cell A.c1
    have xa2 := fun x : Ext w2 => x.cell A.c2
    have xb0 := fun x : Ext w2 => x.cell B.c0
    have hne := Ext.there w2
    go_wp2_with fail
    refine Ext.region (by kernel_rfl) (by kernel_rfl) ?_
    repeat (go_big_quiet_step ((go_at_call 26; with_reducible exact Ext.call _ (place_good _ _ _ _ _ QA _))))
    refine wpQuiet_nil ?_
    rintro _ ⟨xw, rfl⟩
    clear xa0 xa1 xa2 xb0 hne
    replace A := A.below xw.h
    replace B := B.below xw.h
    replace V := V.below xw.h
    replace G := G.trans (xw.h.mono (by omega))
    have S3 := xw.h.size
    generalize xw.w = w3 at *
    clear xw
    rcases eR with ⟨d1, d2, hs⟩ | ⟨d1, d2, hs⟩
    · have e1 := Lib.hid d1
      have e2 := Lib.hid d2
      clear d1 d2
      go_wp2_with fail
      refine rgenW (R := fun we => At3 we w.heap.size s a o ∧ At2 we (w.heap.size + 1) i t ∧ Var3 we (w.heap.size + 1 + 1) 0 0 0 ∧ Below w.heap.size w we ∧ Var3 we w3.heap.size r 0 q) (fun we hR => ?_) ?_
      case refine_2 =>
        have bz : Below w3.heap.size w3 _ := (Below.refl w3.heap.size w3).alloc (Nat.le_refl _) (.cells #[.int .i64 ((P + i).tmod 7), .int .i64 0, .int .i64 ((P + i).tdiv 7)] 23)
        rw [e1.out, e2.out]
        exact ⟨A.below bz, B.below bz, V.below bz, G.trans (bz.mono (by omega)), Var3.new w3 _ 0 _ _⟩
      clear A B V G
      obtain ⟨A, B, V, G, O⟩ := hR
      clear e1 e2 hs hw1 hw2 T2 T3 lD1 lD2
      have eS : IntKind.i64.wrap (N1 + t) = N1 + t := by rw [IntKind.wrap_i64]; omega
      have eT : IntKind.i64.wrap (N1 + t - N2) = N1 + t - N2 := by rw [IntKind.wrap_i64]; omega
      have xa0 := fun x : Ext we => x.cell A.c0
      have xa1 := fun x : Ext we => x.cell A.c1
      have xa2 := fun x : Ext we => x.cell A.c2
      have xb1 := fun x : Ext we => x.cell B.c1
      have xo0 := fun x : Ext we => x.cell O.at3.c0
      have xo1 := fun x : Ext we => x.cell O.at3.c1
      have xo2 := fun x : Ext we => x.cell O.at3.c2
      have hne := Ext.there we
      refine Ext.tail 8 (by kernel_rfl) (by kernel_rfl) ?_
      simp only [List.take_succ_cons, List.take_zero, List.drop_succ_cons, List.drop_zero]
      repeat (go_big_quiet_step ((go_at_call 31; first | (with_reducible exact Ext.call _ (sound_good _ _ _ _ _ QB _)) | (with_reducible exact Ext.call _ (sound_good _ _ _ _ _ QA _)))))
      refine wpQuiet_nil ?_
      rintro _ ⟨xw, rfl⟩
      have Q1 := V.at3.lt
      replace V := V.below xw.h
      replace O := O.below xw.h
      replace G := G.trans (xw.h.mono (by omega))
      clear xa0 xa1 xa2 xb1 xo0 xo1 xo2 hne A B QA QB
      generalize xw.w = w4 at *
      clear xw
      have o0 := O.at3.c0; have o1 := O.at3.c1; have o2 := O.at3.c2; have of1 := O.f1
      have lo := O.at3.lt
      have V' := V.rsetNe (c := w3.heap.size) (k := 1) (.int .i64 (N1 + t - N2)) (by omega)
      have O' := O.rset1 (N1 + t - N2)
      have G' := G.setCell (p := ⟨w3.heap.size, 1, none⟩) (by simp <;> omega) (.int .i64 (N1 + t - N2))
      clear V G
      go_wp2_with fail
      by_cases hz : Pt.pv r (N1 + t - N2) q = true
      · rw [if_pos hz] at h
        simp only [Prod.mk.injEq] at h
        obtain ⟨rfl, rfl, rfl, rfl⟩ := h
        refine (pvalid_is _ _ _ _ hz _).mono ?_; rintro e w5 ⟨rfl, hb5⟩
        have V := V'.below hb5
        have O := O'.below hb5
        have G := G'.trans (hb5.mono (by simp <;> omega))
        have S5 := hb5.size
        simp at S5
        clear V' O' G' hb5 o0 o1 o2 of1 hz
        obtain ⟨o0, o1, o2⟩ := And.intro O.at3.c0 (And.intro O.at3.c1 O.at3.c2)
        obtain ⟨v0, v1, v2⟩ := And.intro V.at3.c0 (And.intro V.at3.c1 V.at3.c2)
        obtain ⟨f0, f1, f2⟩ := And.intro V.f0 (And.intro V.f1 V.f2)
        go_wp2_with fail
        refine bodyPost_ret (v := .tuple #[.agg #[.int .i64 r, .int .i64 (N1 + t - N2), .int .i64 q], .int .i64 0]) (by simp [results, Tryd.results15, go_sem, v0, v1, v2]) rfl ⟨rfl, ?_⟩
        exact ((G.setCell (by simp <;> omega) _).setCell (by simp <;> omega) _).setCell (by simp <;> omega) _
      · rw [if_neg hz] at h
        simp only [Prod.mk.injEq] at h
        obtain ⟨rfl, rfl, rfl, rfl⟩ := h
        refine (pvalid_is _ _ _ _ (by simpa using hz : Pt.pv r (N1 + t - N2) q = false) _).mono ?_; rintro e w5 ⟨rfl, hb5⟩
        have V := V'.below hb5
        have G := G'.trans (hb5.mono (by simp <;> omega))
        have S5 := hb5.size
        simp at S5
        clear V' O' G' hb5 o0 o1 o2 of1 hz O
        obtain ⟨v0, v1, v2⟩ := And.intro V.at3.c0 (And.intro V.at3.c1 V.at3.c2)
        obtain ⟨f0, f1, f2⟩ := And.intro V.f0 (And.intro V.f1 V.f2)
        go_wp2_with fail
        refine bodyPost_ret (v := .tuple #[.agg #[.int .i64 0, .int .i64 0, .int .i64 0], .int .i64 3]) (by simp [results, Tryd.results15, go_sem, v0, v1, v2]) rfl ⟨rfl, ?_⟩
        exact ((G.setCell (by simp <;> omega) _).setCell (by simp <;> omega) _).setCell (by simp <;> omega) _
    · have e1 := Lib.hid d1
      have e2 := Lib.hid d2
      clear d1 d2
      go_wp2_with fail
      refine rgenW (R := fun we => At3 we w.heap.size s a o ∧ At2 we (w.heap.size + 1) i t ∧ Var3 we (w.heap.size + 1 + 1) 0 0 0 ∧ Below w.heap.size w we ∧ Var3 we w3.heap.size r 0 q) (fun we hR => ?_) ?_
      case refine_2 =>
        have bz : Below w3.heap.size w3 _ := (Below.refl w3.heap.size w3).alloc (Nat.le_refl _) (.cells #[.int .i64 ((P + i).tmod 7 + 7), .int .i64 0, .int .i64 ((P + i).tdiv 7 - 1)] 23)
        rw [e1.out, e2.out]
        exact ⟨A.below bz, B.below bz, V.below bz, G.trans (bz.mono (by omega)), Var3.new w3 _ 0 _ _⟩
      clear A B V G
      obtain ⟨A, B, V, G, O⟩ := hR
      clear e1 e2 hs hw1 hw2 T2 T3 lD1 lD2
      have eS : IntKind.i64.wrap (N1 + t) = N1 + t := by rw [IntKind.wrap_i64]; omega
      have eT : IntKind.i64.wrap (N1 + t - N2) = N1 + t - N2 := by rw [IntKind.wrap_i64]; omega
      have xa0 := fun x : Ext we => x.cell A.c0
      have xa1 := fun x : Ext we => x.cell A.c1
      have xa2 := fun x : Ext we => x.cell A.c2
      have xb1 := fun x : Ext we => x.cell B.c1
      have xo0 := fun x : Ext we => x.cell O.at3.c0
      have xo1 := fun x : Ext we => x.cell O.at3.c1
      have xo2 := fun x : Ext we => x.cell O.at3.c2
      have hne := Ext.there we
      refine Ext.tail 8 (by kernel_rfl) (by kernel_rfl) ?_
      simp only [List.take_succ_cons, List.take_zero, List.drop_succ_cons, List.drop_zero]
      repeat (go_big_quiet_step ((go_at_call 31; first | (with_reducible exact Ext.call _ (sound_good _ _ _ _ _ QB _)) | (with_reducible exact Ext.call _ (sound_good _ _ _ _ _ QA _)))))
      refine wpQuiet_nil ?_
      rintro _ ⟨xw, rfl⟩
      have Q1 := V.at3.lt
      replace V := V.below xw.h
      replace O := O.below xw.h
      replace G := G.trans (xw.h.mono (by omega))
      clear xa0 xa1 xa2 xb1 xo0 xo1 xo2 hne A B QA QB
      generalize xw.w = w4 at *
      clear xw
      have o0 := O.at3.c0; have o1 := O.at3.c1; have o2 := O.at3.c2; have of1 := O.f1
      have lo := O.at3.lt
      have V' := V.rsetNe (c := w3.heap.size) (k := 1) (.int .i64 (N1 + t - N2)) (by omega)
      have O' := O.rset1 (N1 + t - N2)
      have G' := G.setCell (p := ⟨w3.heap.size, 1, none⟩) (by simp <;> omega) (.int .i64 (N1 + t - N2))
      clear V G
      go_wp2_with fail
      by_cases hz : Pt.pv r (N1 + t - N2) q = true
      · rw [if_pos hz] at h
        simp only [Prod.mk.injEq] at h
        obtain ⟨rfl, rfl, rfl, rfl⟩ := h
        refine (pvalid_is _ _ _ _ hz _).mono ?_; rintro e w5 ⟨rfl, hb5⟩
        have V := V'.below hb5
        have O := O'.below hb5
        have G := G'.trans (hb5.mono (by simp <;> omega))
        have S5 := hb5.size
        simp at S5
        clear V' O' G' hb5 o0 o1 o2 of1 hz
        obtain ⟨o0, o1, o2⟩ := And.intro O.at3.c0 (And.intro O.at3.c1 O.at3.c2)
        obtain ⟨v0, v1, v2⟩ := And.intro V.at3.c0 (And.intro V.at3.c1 V.at3.c2)
        obtain ⟨f0, f1, f2⟩ := And.intro V.f0 (And.intro V.f1 V.f2)
        go_wp2_with fail
        refine bodyPost_ret (v := .tuple #[.agg #[.int .i64 r, .int .i64 (N1 + t - N2), .int .i64 q], .int .i64 0]) (by simp [results, Tryd.results15, go_sem, v0, v1, v2]) rfl ⟨rfl, ?_⟩
        exact ((G.setCell (by simp <;> omega) _).setCell (by simp <;> omega) _).setCell (by simp <;> omega) _
      · rw [if_neg hz] at h
        simp only [Prod.mk.injEq] at h
        obtain ⟨rfl, rfl, rfl, rfl⟩ := h
        refine (pvalid_is _ _ _ _ (by simpa using hz : Pt.pv r (N1 + t - N2) q = false) _).mono ?_; rintro e w5 ⟨rfl, hb5⟩
        have V := V'.below hb5
        have G := G'.trans (hb5.mono (by simp <;> omega))
        have S5 := hb5.size
        simp at S5
        clear V' O' G' hb5 o0 o1 o2 of1 hz O
        obtain ⟨v0, v1, v2⟩ := And.intro V.at3.c0 (And.intro V.at3.c1 V.at3.c2)
        obtain ⟨f0, f1, f2⟩ := And.intro V.f0 (And.intro V.f1 V.f2)
        go_wp2_with fail
        refine bodyPost_ret (v := .tuple #[.agg #[.int .i64 0, .int .i64 0, .int .i64 0], .int .i64 3]) (by simp [results, Tryd.results15, go_sem, v0, v1, v2]) rfl ⟨rfl, ?_⟩
        exact ((G.setCell (by simp <;> omega) _).setCell (by simp <;> omega) _).setCell (by simp <;> omega) _
  · have hv' : (Pt.pv s a o && Pt.iv i t) = false := by simpa using hv
    rw [if_neg hv] at h
    simp only [Prod.mk.injEq] at h
    obtain ⟨rfl, rfl, rfl, rfl⟩ := h
    obtain ⟨x, hx⟩ : ∃ x, Pt.pv s a o = x := ⟨_, rfl⟩
    obtain ⟨y, hy⟩ : ∃ y, Pt.iv i t = y := ⟨_, rfl⟩
    rw [hx, hy] at hv'
    have HV := Lib.hid hx
    have HU := Lib.hid hy
    clear hx hy hv
    cases x <;> cases y
    case true.true => exact absurd hv' (by simp)
    all_goals
      go_enter Tryd.func15, Tryd.ntmps15
      go_wp2_with fail
      refine (pvalid_is _ _ _ _ HV.out _).mono ?_; rintro e w1 ⟨rfl, hb1⟩
      have S1 : w.heap.size + 3 ≤ w1.heap.size := by have := hb1.size; simp at this; omega
      have A := (((At3.new w s a o _).alloc _).alloc _).below hb1
      have B := ((At2.new (w.alloc _) i t _).alloc _).below hb1
      have V := (Var3.new ((w.alloc _).alloc _) 0 0 0 _).below hb1
      have G : Below w.heap.size w w1 := ((((Below.refl _ _).alloc (Nat.le_refl _) _).alloc (by simp) _).alloc (by simp; omega) _).trans (hb1.mono (by simp; omega))
      simp only [World.size_alloc] at B V
      clear hb1
      obtain ⟨b0, b1⟩ := And.intro B.c0 B.c1
      go_wp2_with fail
      refine (form_is _ _ _ HU.out _).mono ?_; rintro e w2 ⟨rfl, hb2⟩
      replace A := A.below hb2
      replace B := B.below hb2
      replace V := V.below hb2
      replace G := G.trans (hb2.mono (by omega))
      have S2 : w.heap.size + 3 ≤ w2.heap.size := by have := hb2.size; omega
      clear b0 b1 hb2
      obtain ⟨v0, v1, v2⟩ := And.intro V.at3.c0 (And.intro V.at3.c1 V.at3.c2)
      obtain ⟨f0, f1, f2⟩ := And.intro V.f0 (And.intro V.f1 V.f2)
      go_wp2_with fail
      refine bodyPost_ret (v := .tuple #[.agg #[.int .i64 0, .int .i64 0, .int .i64 0], .int .i64 1]) (by simp [results, Tryd.results15, go_sem, v0, v1, v2]) rfl ⟨rfl, ?_⟩
      exact ((G.setCell (by simp <;> omega) _).setCell (by simp <;> omega) _).setCell (by simp <;> omega) _
end Go.Proofs.YtgehnciegolkhaaDoor
