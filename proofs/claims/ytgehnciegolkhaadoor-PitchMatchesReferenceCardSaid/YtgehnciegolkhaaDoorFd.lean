/- The walks of pitch's Join and Between. -/
import Derived.Test.YtgehnciegolkhaaDoorFc
namespace Go.Proofs.YtgehnciegolkhaaDoor
open Go.RowKit

set_option maxHeartbeats 1600000 in
theorem join_is (i t j u I T E : Int) (h : Pt.joinR i t j u = (I, T, E)) (w : World) :
    Calls Tryd.prog 18 #[.agg #[.int .i64 i, .int .i64 t], .agg #[.int .i64 j, .int .i64 u]] w fun e w' => e = .returned (.tuple #[.agg #[.int .i64 I, .int .i64 T], .int .i64 E]) ∧ Below w.heap.size w w' := by
  unfold Pt.joinR at h
  by_cases hv : (Pt.iv i t && Pt.iv j u) = true
  · rw [if_pos hv] at h
    simp only [Bool.and_eq_true] at hv
    have HV := Lib.hid hv.1
    have HU := Lib.hid hv.2
    obtain ⟨⟨l1, l2, l3, l4⟩, l5, l6, l7, l8⟩ := And.intro (Pt.iv_iff.1 hv.1) (Pt.iv_iff.1 hv.2)
    have HR := Lib.hid h
    clear hv h
    go_enter Tryd.func18, Tryd.ntmps18
    go_wp2_with fail
    refine (wellFormed_is _ _ _ HV.out _).mono ?_; rintro e w1 ⟨rfl, hb1⟩
    have S1 : w.heap.size + 3 ≤ w1.heap.size := by have := hb1.size; simp at this; omega
    have A := (((At2.new w i t _).alloc _).alloc _).below hb1
    have B := ((At2.new (w.alloc _) j u _).alloc _).below hb1
    have V := (Var2.new ((w.alloc _).alloc _) 0 0 _).below hb1
    have G : Below w.heap.size w w1 := ((((Below.refl _ _).alloc (Nat.le_refl _) _).alloc (by simp) _).alloc (by simp; omega) _).trans (hb1.mono (by simp; omega))
    simp only [World.size_alloc] at B V
    clear hb1
    obtain ⟨b0, b1⟩ := And.intro B.c0 B.c1
    go_wp2_with fail
    refine (wellFormed_is _ _ _ HU.out _).mono ?_; rintro e w2 ⟨rfl, hb2⟩
    replace A := A.below hb2
    replace B := B.below hb2
    replace V := V.below hb2
    replace G := G.trans (hb2.mono (by omega))
    have S2 : w.heap.size + 3 ≤ w2.heap.size := by have := hb2.size; omega
    clear b0 b1
    clear hb2
    obtain ⟨a0, a1, b0, b1⟩ := And.intro A.c0 (And.intro A.c1 (And.intro B.c0 B.c1))
    go_wp2_with fail
    refine (ranged_is _ _ _ _ _ HR.out _).mono ?_; rintro e w3 ⟨rfl, hb3⟩
    replace V := V.below hb3
    replace G := G.trans (hb3.mono (by omega))
    clear hb3 a0 a1 b0 b1 HR
    obtain ⟨v0, v1, f0, f1⟩ := And.intro V.at2.c0 (And.intro V.at2.c1 (And.intro V.f0 V.f1))
    go_wp2_with fail
    refine bodyPost_ret (v := .tuple #[.agg #[.int .i64 I, .int .i64 T], .int .i64 E]) (by simp [results, Tryd.results18, go_sem, v0, v1]) rfl ⟨rfl, ?_⟩
    exact (G.setCell (by simp <;> omega) _).setCell (by simp <;> omega) _
  · have hv' : (Pt.iv i t && Pt.iv j u) = false := by simpa using hv
    rw [if_neg hv] at h
    simp only [Prod.mk.injEq] at h
    obtain ⟨rfl, rfl, rfl⟩ := h
    by_cases hx : Pt.iv i t = true
    · have HV := Lib.hid hx
      have HU : Hid (Pt.iv j u = false) := Lib.hid (by simpa [hx] using hv')
      clear hv hv' hx
      go_enter Tryd.func18, Tryd.ntmps18
      go_wp2_with fail
      refine (wellFormed_is _ _ _ HV.out _).mono ?_; rintro e w1 ⟨rfl, hb1⟩
      have S1 : w.heap.size + 3 ≤ w1.heap.size := by have := hb1.size; simp at this; omega
      have A := (((At2.new w i t _).alloc _).alloc _).below hb1
      have B := ((At2.new (w.alloc _) j u _).alloc _).below hb1
      have V := (Var2.new ((w.alloc _).alloc _) 0 0 _).below hb1
      have G : Below w.heap.size w w1 := ((((Below.refl _ _).alloc (Nat.le_refl _) _).alloc (by simp) _).alloc (by simp; omega) _).trans (hb1.mono (by simp; omega))
      simp only [World.size_alloc] at B V
      clear hb1
      obtain ⟨b0, b1⟩ := And.intro B.c0 B.c1
      go_wp2_with fail
      refine (wellFormed_is _ _ _ HU.out _).mono ?_; rintro e w2 ⟨rfl, hb2⟩
      replace A := A.below hb2
      replace B := B.below hb2
      replace V := V.below hb2
      replace G := G.trans (hb2.mono (by omega))
      have S2 : w.heap.size + 3 ≤ w2.heap.size := by have := hb2.size; omega
      clear b0 b1
      clear hb2
      obtain ⟨v0, v1, f0, f1⟩ := And.intro V.at2.c0 (And.intro V.at2.c1 (And.intro V.f0 V.f1))
      go_wp2_with fail
      refine bodyPost_ret (v := .tuple #[.agg #[.int .i64 0, .int .i64 0], .int .i64 1]) (by simp [results, Tryd.results18, go_sem, v0, v1]) rfl ⟨rfl, ?_⟩
      exact (G.setCell (by simp <;> omega) _).setCell (by simp <;> omega) _
    · have HV : Hid (Pt.iv i t = false) := Lib.hid (by simpa using hx)
      clear hv hv' hx
      go_enter Tryd.func18, Tryd.ntmps18
      go_wp2_with fail
      refine (wellFormed_is _ _ _ HV.out _).mono ?_; rintro e w1 ⟨rfl, hb1⟩
      have S1 : w.heap.size + 3 ≤ w1.heap.size := by have := hb1.size; simp at this; omega
      have A := (((At2.new w i t _).alloc _).alloc _).below hb1
      have B := ((At2.new (w.alloc _) j u _).alloc _).below hb1
      have V := (Var2.new ((w.alloc _).alloc _) 0 0 _).below hb1
      have G : Below w.heap.size w w1 := ((((Below.refl _ _).alloc (Nat.le_refl _) _).alloc (by simp) _).alloc (by simp; omega) _).trans (hb1.mono (by simp; omega))
      simp only [World.size_alloc] at B V
      clear hb1
      obtain ⟨v0, v1, f0, f1⟩ := And.intro V.at2.c0 (And.intro V.at2.c1 (And.intro V.f0 V.f1))
      go_wp2_with fail
      refine bodyPost_ret (v := .tuple #[.agg #[.int .i64 0, .int .i64 0], .int .i64 1]) (by simp [results, Tryd.results18, go_sem, v0, v1]) rfl ⟨rfl, ?_⟩
      exact (G.setCell (by simp <;> omega) _).setCell (by simp <;> omega) _

set_option maxHeartbeats 1600000 in
theorem between_is (s a o p b q I T E : Int) (h : Pt.betR s a o p b q = (I, T, E)) (w : World) (hG : Glob w) :
    Calls Tryd.prog 16 #[.agg #[.int .i64 s, .int .i64 a, .int .i64 o], .agg #[.int .i64 p, .int .i64 b, .int .i64 q]] w fun e w' => e = .returned (.tuple #[.agg #[.int .i64 I, .int .i64 T], .int .i64 E]) ∧ Below w.heap.size w w' := by
  unfold Pt.betR at h
  by_cases hv : (Pt.pv s a o && Pt.pv p b q) = true
  · rw [if_pos hv] at h
    simp only [Bool.and_eq_true] at hv
    have HV := Lib.hid hv.1
    have HU := Lib.hid hv.2
    have QA := NGood.of hv.1
    have QB := NGood.of hv.2
    obtain ⟨⟨l1, l2, l3, l4, l5, l6⟩, m1, m2, m3, m4, m5, m6⟩ := And.intro (Pt.pv_iff.1 hv.1) (Pt.pv_iff.1 hv.2)
    clear hv
    have i1 := Pt.natI_in l1 l2
    have i2 := Pt.natI_in m1 m2
    have lP1 : -1000 ≤ 7 * o + s ∧ 7 * o + s ≤ 1000 := by omega
    have lP2 : -1000 ≤ 7 * q + p ∧ 7 * q + p ≤ 1000 := by omega
    have lN1 : -1000 ≤ Pt.snd s a o ∧ Pt.snd s a o ≤ 1000 := by unfold Pt.snd; omega
    have lN2 : -1000 ≤ Pt.snd p b q ∧ Pt.snd p b q ≤ 1000 := by unfold Pt.snd; omega
    clear i1 i2 l1 l2 l3 l4 l5 l6 m1 m2 m3 m4 m5 m6
    unfold Pt.place at h
    generalize 7 * o + s = P1 at *
    generalize 7 * q + p = P2 at *
    generalize Pt.snd s a o = N1 at *
    generalize Pt.snd p b q = N2 at *
    obtain ⟨⟨lP1, kP1⟩, ⟨lP2, kP2⟩, ⟨lN1, kN1⟩, lN2, kN2⟩ := And.intro lP1 (And.intro lP2 (And.intro lN1 lN2))
    have HR := Lib.hid h
    clear h
    go_enter Tryd.func16, Tryd.ntmps16
    go_wp2_with fail
    refine (valid_is _ _ _ _ HV.out _).mono ?_; rintro e w1 ⟨rfl, hb1⟩
    have S1 : w.heap.size + 3 ≤ w1.heap.size := by have := hb1.size; simp at this; omega
    have A := (((At3.new w s a o _).alloc _).alloc _).below hb1
    have B := ((At3.new (w.alloc _) p b q _).alloc _).below hb1
    have V := (Var2.new ((w.alloc _).alloc _) 0 0 _).below hb1
    have G : Below w.heap.size w w1 := ((((Below.refl _ _).alloc (Nat.le_refl _) _).alloc (by simp) _).alloc (by simp; omega) _).trans (hb1.mono (by simp; omega))
    simp only [World.size_alloc] at B V
    replace hG := (((hG.alloc _).alloc _).alloc _).below hb1
    clear hb1
    obtain ⟨b0, b1, b2⟩ := And.intro B.c0 (And.intro B.c1 B.c2)
    go_wp2_with fail
    refine (valid_is _ _ _ _ HU.out _).mono ?_; rintro e w2 ⟨rfl, hb2⟩
    replace A := A.below hb2
    replace B := B.below hb2
    replace V := V.below hb2
    replace G := G.trans (hb2.mono (by omega))
    have S2 : w.heap.size + 3 ≤ w2.heap.size := by have := hb2.size; omega
    clear b0 b1 b2
    replace hG := hG.below hb2
    clear hb2
    have xa0 := fun x : Ext w2 => x.cell A.c0
    have xa1 := fun x : Ext w2 => x.cell A.c1
    have xa2 := fun x : Ext w2 => x.cell A.c2
    have xb0 := fun x : Ext w2 => x.cell B.c0
    have xb1 := fun x : Ext w2 => x.cell B.c1
    have xb2 := fun x : Ext w2 => x.cell B.c2
    have hne := Ext.there w2
    go_wp2_with fail
    refine Ext.tail 14 (by kernel_rfl) (by kernel_rfl) ?_
    simp only [List.take_succ_cons, List.take_zero, List.drop_succ_cons, List.drop_zero]
    repeat (go_big_quiet_step ((first | (go_at_call 34; first | (with_reducible exact Ext.call _ (pplace_is _ _ _ _ _ QB _)) | (with_reducible exact Ext.call _ (pplace_is _ _ _ _ _ QA _))) | (go_at_call 30; first | (with_reducible exact Ext.call _ (pnumber_is _ _ _ _ _ QB _ (hG.below (Ext.h _)))) | (with_reducible exact Ext.call _ (pnumber_is _ _ _ _ _ QA _ (hG.below (Ext.h _))))) | (go_at_call 36; with_reducible exact Ext.call _ (ranged_is _ _ _ _ _ HR.out _)))))
    refine wpQuiet_nil ?_
    rintro _ ⟨xw, rfl⟩
    replace V := V.below xw.h
    replace G := G.trans (xw.h.mono (by omega))
    clear xa0 xa1 xa2 xb0 xb1 xb2 hne A B hG QA QB HR
    generalize xw.w = w3 at *
    clear xw
    obtain ⟨v0, v1, f0, f1⟩ := And.intro V.at2.c0 (And.intro V.at2.c1 (And.intro V.f0 V.f1))
    go_wp2_with fail
    refine bodyPost_ret (v := .tuple #[.agg #[.int .i64 I, .int .i64 T], .int .i64 E]) (by simp [results, Tryd.results16, go_sem, v0, v1]) rfl ⟨rfl, ?_⟩
    exact (G.setCell (by simp <;> omega) _).setCell (by simp <;> omega) _
  · have hv' : (Pt.pv s a o && Pt.pv p b q) = false := by simpa using hv
    rw [if_neg hv] at h
    simp only [Prod.mk.injEq] at h
    obtain ⟨rfl, rfl, rfl⟩ := h
    clear hG
    by_cases hx : Pt.pv s a o = true
    · have HV := Lib.hid hx
      have HU : Hid (Pt.pv p b q = false) := Lib.hid (by simpa [hx] using hv')
      clear hv hv' hx
      go_enter Tryd.func16, Tryd.ntmps16
      go_wp2_with fail
      refine (valid_is _ _ _ _ HV.out _).mono ?_; rintro e w1 ⟨rfl, hb1⟩
      have S1 : w.heap.size + 3 ≤ w1.heap.size := by have := hb1.size; simp at this; omega
      have A := (((At3.new w s a o _).alloc _).alloc _).below hb1
      have B := ((At3.new (w.alloc _) p b q _).alloc _).below hb1
      have V := (Var2.new ((w.alloc _).alloc _) 0 0 _).below hb1
      have G : Below w.heap.size w w1 := ((((Below.refl _ _).alloc (Nat.le_refl _) _).alloc (by simp) _).alloc (by simp; omega) _).trans (hb1.mono (by simp; omega))
      simp only [World.size_alloc] at B V
      clear hb1
      obtain ⟨b0, b1, b2⟩ := And.intro B.c0 (And.intro B.c1 B.c2)
      go_wp2_with fail
      refine (valid_is _ _ _ _ HU.out _).mono ?_; rintro e w2 ⟨rfl, hb2⟩
      replace A := A.below hb2
      replace B := B.below hb2
      replace V := V.below hb2
      replace G := G.trans (hb2.mono (by omega))
      have S2 : w.heap.size + 3 ≤ w2.heap.size := by have := hb2.size; omega
      clear b0 b1 b2
      clear hb2
      obtain ⟨v0, v1, f0, f1⟩ := And.intro V.at2.c0 (And.intro V.at2.c1 (And.intro V.f0 V.f1))
      go_wp2_with fail
      refine bodyPost_ret (v := .tuple #[.agg #[.int .i64 0, .int .i64 0], .int .i64 1]) (by simp [results, Tryd.results16, go_sem, v0, v1]) rfl ⟨rfl, ?_⟩
      exact (G.setCell (by simp <;> omega) _).setCell (by simp <;> omega) _
    · have HV : Hid (Pt.pv s a o = false) := Lib.hid (by simpa using hx)
      clear hv hv' hx
      go_enter Tryd.func16, Tryd.ntmps16
      go_wp2_with fail
      refine (valid_is _ _ _ _ HV.out _).mono ?_; rintro e w1 ⟨rfl, hb1⟩
      have S1 : w.heap.size + 3 ≤ w1.heap.size := by have := hb1.size; simp at this; omega
      have A := (((At3.new w s a o _).alloc _).alloc _).below hb1
      have B := ((At3.new (w.alloc _) p b q _).alloc _).below hb1
      have V := (Var2.new ((w.alloc _).alloc _) 0 0 _).below hb1
      have G : Below w.heap.size w w1 := ((((Below.refl _ _).alloc (Nat.le_refl _) _).alloc (by simp) _).alloc (by simp; omega) _).trans (hb1.mono (by simp; omega))
      simp only [World.size_alloc] at B V
      clear hb1
      obtain ⟨v0, v1, f0, f1⟩ := And.intro V.at2.c0 (And.intro V.at2.c1 (And.intro V.f0 V.f1))
      go_wp2_with fail
      refine bodyPost_ret (v := .tuple #[.agg #[.int .i64 0, .int .i64 0], .int .i64 1]) (by simp [results, Tryd.results16, go_sem, v0, v1]) rfl ⟨rfl, ?_⟩
      exact (G.setCell (by simp <;> omega) _).setCell (by simp <;> omega) _

end Go.Proofs.YtgehnciegolkhaaDoor
