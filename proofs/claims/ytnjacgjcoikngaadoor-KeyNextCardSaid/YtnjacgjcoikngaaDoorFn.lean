/- The walk of pitch's Add. -/
import Derived.Test.YtnjacgjcoikngaaDoorFg
namespace Go.Proofs.YtnjacgjcoikngaaDoor
open Go.RowKit

/-- What the table holds that pitch reads. -/
structure Glob (w : World) : Prop where
  lt : 1 < w.heap.size
  nums : ∀ s : Int, 0 ≤ s → s ≤ 6 → w.cell? ⟨1, s.toNat, none⟩ = some (.int .i64 (Pt.natI s))
theorem Glob.below {w w' : World} (h : Glob w) (hb : Below w.heap.size w w') : Glob w' :=
  ⟨Nat.lt_of_lt_of_le h.lt hb.size, fun s h0 h1 => (hb.cell (p := ⟨1, s.toNat, none⟩) h.lt).trans (h.nums s h0 h1)⟩
theorem Glob.alloc {w : World} (h : Glob w) (o : Obj) : Glob (w.alloc o) := h.below ((Below.refl _ _).alloc (Nat.le_refl _) _)

set_option maxHeartbeats 400000 in
theorem pplace_any (s a o : Int) (w : World) (h0 : -1000 ≤ s) (h1 : s ≤ 1000) (h2 : -1000 ≤ o) (h3 : o ≤ 1000) :
    Calls Tryd.prog 46 #[.agg #[.int .i64 s, .int .i64 a, .int .i64 o]] w fun e w' => e = .returned (.int .i64 (7 * o + s)) ∧ Below w.heap.size w w' := by
  go_enter Tryd.func46, Tryd.ntmps46
  go_wp2_with fail
  go_ret
  exact ⟨rfl, by go_grown⟩

/-- The place and the number of a pitch with a right step that is not far out. -/
structure NGood (s a o P N : Int) : Prop where
  eP : 7 * o + s = P
  eN : Pt.snd s a o = N
  h0 : 0 ≤ s
  h1 : s ≤ 6
  h2 : -1000 ≤ o
  h3 : o ≤ 1000
  h4 : -1000 ≤ a
  h5 : a ≤ 1000

theorem pplace_is (s a o P N : Int) (g : NGood s a o P N) (w : World) :
    Calls Tryd.prog 46 #[.agg #[.int .i64 s, .int .i64 a, .int .i64 o]] w fun e w' => e = .returned (.int .i64 P) ∧ Below w.heap.size w w' :=
  g.eP ▸ pplace_any s a o w (by have := g.h0; omega) (by have := g.h1; omega) g.h2 g.h3

set_option maxHeartbeats 800000 in
theorem pnumber_is (s a o P N : Int) (g : NGood s a o P N) (w : World) (hG : Glob w) :
    Calls Tryd.prog 47 #[.agg #[.int .i64 s, .int .i64 a, .int .i64 o]] w fun e w' => e = .returned (.int .i64 N) ∧ Below w.heap.size w w' := by
  obtain ⟨-, e, h0, h1, h2, h3, h4, h5⟩ := g
  subst e
  have n1 := Pt.natI_in h0 h1
  have hn := (hG.alloc (.cells #[.int .i64 s, .int .i64 a, .int .i64 o] 44)).nums s h0 h1
  have E : Hid (Pt.snd s a o = 12 * o + Pt.natI s + a) := Lib.hid rfl
  rw [E.out]
  generalize Pt.natI s = n at *
  obtain ⟨n1, n2⟩ := n1
  have A := At3.new w s a o 44
  have xa0 := fun x : Ext (w.alloc (.cells #[.int .i64 s, .int .i64 a, .int .i64 o] 44)) => x.cell A.c0
  have xa1 := fun x : Ext (w.alloc (.cells #[.int .i64 s, .int .i64 a, .int .i64 o] 44)) => x.cell A.c1
  have xa2 := fun x : Ext (w.alloc (.cells #[.int .i64 s, .int .i64 a, .int .i64 o] 44)) => x.cell A.c2
  have xn := fun x : Ext (w.alloc (.cells #[.int .i64 s, .int .i64 a, .int .i64 o] 44)) => x.cell hn
  have hne := Ext.there (w.alloc (.cells #[.int .i64 s, .int .i64 a, .int .i64 o] 44))
  have hlt : s.toNat < 7 := by omega
  clear hn E A hG
  go_enter Tryd.func47, Tryd.ntmps47
  go_wp2_with fail
  refine Ext.region (by kernel_rfl) (by kernel_rfl) ?_
  repeat (go_big_quiet_step (fail))
  refine wpQuiet_nil ?_
  rintro _ ⟨xw, rfl⟩
  have hb := xw.h
  generalize xw.w = w3 at *
  clear xw
  go_wp2_with fail
  go_ret
  exact ⟨rfl, ((Below.refl _ _).alloc (Nat.le_refl _) _).trans (hb.mono (by simp))⟩

set_option maxHeartbeats 800000 in
theorem divide_is (n q r : Int) (hq : n / 7 = q) (hr : n % 7 = r) (l1 : -10000 ≤ n) (l2 : n ≤ 10000) (w : World) :
    Calls Tryd.prog 45 #[.int .i64 n, .int .i64 7] w fun e w' => e = .returned (.tuple #[.int .i64 q, .int .i64 r]) ∧ Below w.heap.size w w' := by
  have T1 := Int.mul_tdiv_add_tmod n 7
  have T2 := Int.tmod_lt_of_pos n (b := 7) (by omega)
  have T3 := Int.lt_tmod_of_pos n (b := 7) (by omega)
  have hw1 : IntKind.i64.wrap (n.tdiv 7) = n.tdiv 7 := by rw [IntKind.wrap_i64]; omega
  have hw2 : IntKind.i64.wrap (n.tmod 7) = n.tmod 7 := by rw [IntKind.wrap_i64]; omega
  have hne := Ext.there w
  by_cases hs : n.tmod 7 < 0
  · have e1 : r = n.tmod 7 + 7 := by omega
    have e2 : q = n.tdiv 7 - 1 := by omega
    subst e1 e2
    clear hq hr
    go_enter Tryd.func45, Tryd.ntmps45
    go_wp2_with fail
    refine Ext.region (by kernel_rfl) (by kernel_rfl) ?_
    repeat (go_big_quiet_step (fail))
    refine wpQuiet_nil ?_
    rintro _ ⟨xw, rfl⟩
    have hb := xw.h
    generalize xw.w = w3 at *
    clear xw
    go_wp2_with fail
    go_ret2
    exact ⟨rfl, hb⟩
  · have e1 : r = n.tmod 7 := by omega
    have e2 : q = n.tdiv 7 := by omega
    subst e1 e2
    clear hq hr
    go_enter Tryd.func45, Tryd.ntmps45
    go_wp2_with fail
    refine Ext.region (by kernel_rfl) (by kernel_rfl) ?_
    repeat (go_big_quiet_step (fail))
    refine wpQuiet_nil ?_
    rintro _ ⟨xw, rfl⟩
    have hb := xw.h
    generalize xw.w = w3 at *
    clear xw
    go_wp2_with fail
    go_ret2
    exact ⟨rfl, hb⟩

theorem NGood.of {s a o : Int} (h : Pt.pv s a o = true) : NGood s a o (7 * o + s) (Pt.snd s a o) := by
  obtain ⟨l1, l2, l3, l4, l5, l6⟩ := Pt.pv_iff.1 h
  exact ⟨rfl, rfl, l1, l2, by omega, by omega, by omega, by omega⟩

theorem genW {P : Program} {c : Code} {Q : Exit → Act → World → Prop} {a : Act} {W : World} (R : World → Prop) (h : ∀ we, R we → c.wp P Q a we) (hR : R W) : c.wp P Q a W := h W hR

theorem Var3.set1 {w : World} {b : Nat} {x y z : Int} (h : Var3 w b x y z) (v : Int) : Var3 (w.setCell ⟨b, 1, none⟩ (.int .i64 v)) b x v z := by
  obtain ⟨⟨l, c0, c1, c2⟩, f0, f1, f2⟩ := h
  refine ⟨⟨?_, ?_, ?_, ?_⟩, ?_, ?_, ?_⟩
  · simpa using l
  all_goals go_simp

theorem Var3.setNe {w : World} {b c k : Nat} {x y z : Int} (h : Var3 w b x y z) (u : Value) (hne : b ≠ c) : Var3 (w.setCell ⟨c, k, none⟩ u) b x y z := by
  obtain ⟨⟨l, c0, c1, c2⟩, f0, f1, f2⟩ := h
  have hne' : ¬ c = b := fun e => hne e.symm
  refine ⟨⟨?_, ?_, ?_, ?_⟩, ?_, ?_, ?_⟩
  · simpa using l
  all_goals go_simp

set_option maxHeartbeats 1600000 in
theorem add_is (s a o i t X Y Z E : Int) (h : Pt.addR s a o i t = (X, Y, Z, E)) (w : World) (hG : Glob w) :
    Calls Tryd.prog 24 #[.agg #[.int .i64 s, .int .i64 a, .int .i64 o], .agg #[.int .i64 i, .int .i64 t]] w fun e w' => e = .returned (.tuple #[.agg #[.int .i64 X, .int .i64 Y, .int .i64 Z], .int .i64 E]) ∧ Below w.heap.size w w' := by
  unfold Pt.addR at h
  by_cases hv : (Pt.pv s a o && Pt.iv i t) = true
  · rw [if_pos hv] at h
    simp only [Bool.and_eq_true] at hv
    have HV := Lib.hid hv.1
    have HU := Lib.hid hv.2
    obtain ⟨⟨l1, l2, l3, l4, l5, l6⟩, m1, m2, m3, m4⟩ := And.intro (Pt.pv_iff.1 hv.1) (Pt.iv_iff.1 hv.2)
    have QA := NGood.of hv.1
    clear hv
    have n1 := Pt.natI_in l1 l2
    have k1 : -1000 ≤ Pt.snd s a o ∧ Pt.snd s a o ≤ 1000 := by unfold Pt.snd; omega
    obtain ⟨q, hq⟩ : ∃ q, (7 * o + s + i) / 7 = q := ⟨_, rfl⟩
    obtain ⟨r, hr⟩ : ∃ r, (7 * o + s + i) % 7 = r := ⟨_, rfl⟩
    have DV := Lib.hid (fun w' => divide_is (7 * o + s + i) q r hq hr (by omega) (by omega) w')
    unfold Pt.mA Pt.mS Pt.mO Pt.place at h
    rw [hq, hr] at h
    have q1 : 0 ≤ r := by omega
    have q2 : r ≤ 6 := by omega
    have q3 : -1000 ≤ q ∧ q ≤ 1000 := by omega
    have n2 := Pt.natI_in q1 q2
    have k2 : -20000 ≤ Pt.snd r 0 q ∧ Pt.snd r 0 q ≤ 20000 := by unfold Pt.snd; omega
    have QB : NGood r 0 q (7 * q + r) (Pt.snd r 0 q) := ⟨rfl, rfl, q1, q2, q3.1, q3.2, by omega, by omega⟩
    have lP : -900 ≤ 7 * o + s ∧ 7 * o + s ≤ 900 := by omega
    clear l1 l2 l3 l4 l5 l6 n1 n2 hq hr
    obtain ⟨⟨k1, k3⟩, ⟨k2, k4⟩, ⟨q3, q4⟩, lP, kP⟩ := And.intro k1 (And.intro k2 (And.intro q3 lP))
    generalize Pt.snd s a o = N1 at *
    generalize Pt.snd r 0 q = N2 at *
    generalize 7 * o + s = P at *
    generalize 7 * q + r = P2 at *
    go_enter Tryd.func24, Tryd.ntmps24
    go_wp2_with fail
    refine (valid_is _ _ _ _ HV.out _).mono ?_; rintro e w1 ⟨rfl, hb1⟩
    have S1 : w.heap.size + 3 ≤ w1.heap.size := by have := hb1.size; simp at this; omega
    have A := (((At3.new w s a o _).alloc _).alloc _).below hb1
    have B := ((At2.new (w.alloc _) i t _).alloc _).below hb1
    have V := (Var3.new ((w.alloc _).alloc _) 0 0 0 _).below hb1
    have G : Below w.heap.size w w1 := ((((Below.refl _ _).alloc (Nat.le_refl _) _).alloc (by simp) _).alloc (by simp; omega) _).trans (hb1.mono (by simp; omega))
    simp only [World.size_alloc] at B V
    replace hG := (((hG.alloc _).alloc _).alloc _).below hb1
    clear hb1
    obtain ⟨b0, b1⟩ := And.intro B.c0 B.c1
    go_wp2_with fail
    refine (wellFormed_is _ _ _ HU.out _).mono ?_; rintro e w2 ⟨rfl, hb2⟩
    replace A := A.below hb2
    replace B := B.below hb2
    replace V := V.below hb2
    replace G := G.trans (hb2.mono (by omega))
    have S2 : w.heap.size + 3 ≤ w2.heap.size := by have := hb2.size; omega
    clear b0 b1
    replace hG := hG.below hb2
    clear hb2
    have xa0 := fun x : Ext w2 => x.cell A.c0
    have xa1 := fun x : Ext w2 => x.cell A.c1
    have xa2 := fun x : Ext w2 => x.cell A.c2
    have xb0 := fun x : Ext w2 => x.cell B.c0
    have hne := Ext.there w2
    go_wp2_with fail
    refine Ext.region (by kernel_rfl) (by kernel_rfl) ?_
    repeat (go_big_quiet_step ((first | (go_at_call 46; with_reducible exact Ext.call _ (pplace_is _ _ _ _ _ QA _)) | (go_at_call 45; with_reducible exact Ext.call _ (DV.out _)))))
    refine wpQuiet_nil ?_
    rintro _ ⟨xw, rfl⟩
    clear xa0 xa1 xa2 xb0 hne DV
    replace A := A.below xw.h
    replace B := B.below xw.h
    replace V := V.below xw.h
    replace hG := hG.below xw.h
    replace G := G.trans (xw.h.mono (by omega))
    have S3 := xw.h.size
    generalize xw.w = w3 at *
    clear xw
    go_wp2_with fail
    refine genW (R := fun we => At3 we w.heap.size s a o ∧ At2 we (w.heap.size + 1) i t ∧ Var3 we (w.heap.size + 1 + 1) 0 0 0 ∧ Below w.heap.size w we ∧ Var3 we w3.heap.size r 0 q ∧ Glob we) (fun we hR => ?_) ?_
    case refine_2 =>
      have bz : Below w3.heap.size w3 _ := (Below.refl w3.heap.size w3).alloc (Nat.le_refl _) (.cells #[.int .i64 r, .int .i64 0, .int .i64 q] 44)
      exact ⟨A.below bz, B.below bz, V.below bz, G.trans (bz.mono (by omega)), Var3.new w3 r 0 q _, hG.below bz⟩
    clear A B V G hG
    obtain ⟨A, B, V, G, O, hG⟩ := hR
    have eS : IntKind.i64.wrap (N1 + t) = N1 + t := by rw [IntKind.wrap_i64]; omega
    have eT : IntKind.i64.wrap (N1 + t - N2) = N1 + t - N2 := by rw [IntKind.wrap_i64]; omega
    have xa0 := fun x : Ext we => x.cell A.c0
    have xa1 := fun x : Ext we => x.cell A.c1
    have xa2 := fun x : Ext we => x.cell A.c2
    have xb1 := fun x : Ext we => x.cell B.c1
    have xo0 := fun x : Ext we => x.cell O.at3.c0
    have xo1 := fun x : Ext we => x.cell O.at3.c1
    have xo2 := fun x : Ext we => x.cell O.at3.c2
    have hne := Ext.there we
    refine Ext.tail 8 (by kernel_rfl) (by kernel_rfl) ?_
    simp only [List.take_succ_cons, List.take_zero, List.drop_succ_cons, List.drop_zero]
    repeat (go_big_quiet_step ((go_at_call 47; first | (with_reducible exact Ext.call _ (pnumber_is _ _ _ _ _ QB _ (hG.below (Ext.h _)))) | (with_reducible exact Ext.call _ (pnumber_is _ _ _ _ _ QA _ (hG.below (Ext.h _)))))))
    refine wpQuiet_nil ?_
    rintro _ ⟨xw, rfl⟩
    have Q1 := V.at3.lt
    replace V := V.below xw.h
    replace O := O.below xw.h
    replace G := G.trans (xw.h.mono (by omega))
    clear xa0 xa1 xa2 xb1 xo0 xo1 xo2 hne A B hG QA QB
    generalize xw.w = w4 at *
    clear xw Q1
    have o0 := O.at3.c0; have o1 := O.at3.c1; have o2 := O.at3.c2; have of1 := O.f1
    have lo := O.at3.lt
    have V' := V.setNe (c := w3.heap.size) (k := 1) (.int .i64 (N1 + t - N2)) (by omega)
    have O' := O.set1 (N1 + t - N2)
    have G' := G.setCell (p := ⟨w3.heap.size, 1, none⟩) (by simp <;> omega) (.int .i64 (N1 + t - N2))
    clear V G
    go_wp2_with fail
    by_cases hz : Pt.pv r (N1 + t - N2) q = true
    · rw [if_pos hz] at h
      simp only [Prod.mk.injEq] at h
      obtain ⟨rfl, rfl, rfl, rfl⟩ := h
      refine (valid_is _ _ _ _ hz _).mono ?_; rintro e w5 ⟨rfl, hb5⟩
      have V := V'.below hb5
      have O := O'.below hb5
      have G := G'.trans (hb5.mono (by simp <;> omega))
      have S5 := hb5.size
      simp at S5
      clear V' O' G' hb5 o0 o1 o2 of1 hz
      obtain ⟨o0, o1, o2⟩ := And.intro O.at3.c0 (And.intro O.at3.c1 O.at3.c2)
      obtain ⟨v0, v1, v2⟩ := And.intro V.at3.c0 (And.intro V.at3.c1 V.at3.c2)
      obtain ⟨f0, f1, f2⟩ := And.intro V.f0 (And.intro V.f1 V.f2)
      go_wp2_with fail
      refine bodyPost_ret (v := .tuple #[.agg #[.int .i64 r, .int .i64 (N1 + t - N2), .int .i64 q], .int .i64 0]) (by simp [results, Tryd.results24, go_sem, v0, v1, v2]) rfl ⟨rfl, ?_⟩
      exact ((G.setCell (by simp <;> omega) _).setCell (by simp <;> omega) _).setCell (by simp <;> omega) _
    · rw [if_neg hz] at h
      simp only [Prod.mk.injEq] at h
      obtain ⟨rfl, rfl, rfl, rfl⟩ := h
      refine (valid_is _ _ _ _ (by simpa using hz : Pt.pv r (N1 + t - N2) q = false) _).mono ?_; rintro e w5 ⟨rfl, hb5⟩
      have V := V'.below hb5
      have G := G'.trans (hb5.mono (by simp <;> omega))
      have S5 := hb5.size
      simp at S5
      clear V' O' G' hb5 o0 o1 o2 of1 hz O
      obtain ⟨v0, v1, v2⟩ := And.intro V.at3.c0 (And.intro V.at3.c1 V.at3.c2)
      obtain ⟨f0, f1, f2⟩ := And.intro V.f0 (And.intro V.f1 V.f2)
      go_wp2_with fail
      refine bodyPost_ret (v := .tuple #[.agg #[.int .i64 0, .int .i64 0, .int .i64 0], .int .i64 3]) (by simp [results, Tryd.results24, go_sem, v0, v1, v2]) rfl ⟨rfl, ?_⟩
      exact ((G.setCell (by simp <;> omega) _).setCell (by simp <;> omega) _).setCell (by simp <;> omega) _
  · have hv' : (Pt.pv s a o && Pt.iv i t) = false := by simpa using hv
    rw [if_neg hv] at h
    simp only [Prod.mk.injEq] at h
    obtain ⟨rfl, rfl, rfl, rfl⟩ := h
    clear hG
    by_cases hx : Pt.pv s a o = true
    · have HV := Lib.hid hx
      have HU : Hid (Pt.iv i t = false) := Lib.hid (by simpa [hx] using hv')
      clear hv hv' hx
      go_enter Tryd.func24, Tryd.ntmps24
      go_wp2_with fail
      refine (valid_is _ _ _ _ HV.out _).mono ?_; rintro e w1 ⟨rfl, hb1⟩
      have S1 : w.heap.size + 3 ≤ w1.heap.size := by have := hb1.size; simp at this; omega
      have A := (((At3.new w s a o _).alloc _).alloc _).below hb1
      have B := ((At2.new (w.alloc _) i t _).alloc _).below hb1
      have V := (Var3.new ((w.alloc _).alloc _) 0 0 0 _).below hb1
      have G : Below w.heap.size w w1 := ((((Below.refl _ _).alloc (Nat.le_refl _) _).alloc (by simp) _).alloc (by simp; omega) _).trans (hb1.mono (by simp; omega))
      simp only [World.size_alloc] at B V
      clear hb1
      obtain ⟨b0, b1⟩ := And.intro B.c0 B.c1
      go_wp2_with fail
      refine (wellFormed_is _ _ _ HU.out _).mono ?_; rintro e w2 ⟨rfl, hb2⟩
      replace A := A.below hb2
      replace B := B.below hb2
      replace V := V.below hb2
      replace G := G.trans (hb2.mono (by omega))
      have S2 : w.heap.size + 3 ≤ w2.heap.size := by have := hb2.size; omega
      clear b0 b1
      clear hb2
      obtain ⟨v0, v1, v2⟩ := And.intro V.at3.c0 (And.intro V.at3.c1 V.at3.c2)
      obtain ⟨f0, f1, f2⟩ := And.intro V.f0 (And.intro V.f1 V.f2)
      go_wp2_with fail
      refine bodyPost_ret (v := .tuple #[.agg #[.int .i64 0, .int .i64 0, .int .i64 0], .int .i64 1]) (by simp [results, Tryd.results24, go_sem, v0, v1, v2]) rfl ⟨rfl, ?_⟩
      exact ((G.setCell (by simp <;> omega) _).setCell (by simp <;> omega) _).setCell (by simp <;> omega) _
    · have HV : Hid (Pt.pv s a o = false) := Lib.hid (by simpa using hx)
      clear hv hv' hx
      go_enter Tryd.func24, Tryd.ntmps24
      go_wp2_with fail
      refine (valid_is _ _ _ _ HV.out _).mono ?_; rintro e w1 ⟨rfl, hb1⟩
      have S1 : w.heap.size + 3 ≤ w1.heap.size := by have := hb1.size; simp at this; omega
      have A := (((At3.new w s a o _).alloc _).alloc _).below hb1
      have B := ((At2.new (w.alloc _) i t _).alloc _).below hb1
      have V := (Var3.new ((w.alloc _).alloc _) 0 0 0 _).below hb1
      have G : Below w.heap.size w w1 := ((((Below.refl _ _).alloc (Nat.le_refl _) _).alloc (by simp) _).alloc (by simp; omega) _).trans (hb1.mono (by simp; omega))
      simp only [World.size_alloc] at B V
      clear hb1
      obtain ⟨v0, v1, v2⟩ := And.intro V.at3.c0 (And.intro V.at3.c1 V.at3.c2)
      obtain ⟨f0, f1, f2⟩ := And.intro V.f0 (And.intro V.f1 V.f2)
      go_wp2_with fail
      refine bodyPost_ret (v := .tuple #[.agg #[.int .i64 0, .int .i64 0, .int .i64 0], .int .i64 1]) (by simp [results, Tryd.results24, go_sem, v0, v1, v2]) rfl ⟨rfl, ?_⟩
      exact ((G.setCell (by simp <;> omega) _).setCell (by simp <;> omega) _).setCell (by simp <;> omega) _
end Go.Proofs.YtnjacgjcoikngaaDoor
