/- The reference's Between. -/
import Derived.Test.YtgehnciegolkhaaDoorPr
namespace Go.Proofs.YtgehnciegolkhaaDoor
open Go.RowKit

/-- The place and the number of a pitch that is not far out. -/
structure PGood (s a o P N : Int) : Prop where
  eP : 7 * o + s = P
  eN : Pt.snd s a o = N
  h0 : -1000 ≤ s
  h1 : s ≤ 1000
  h2 : -1000 ≤ o
  h3 : o ≤ 1000
  h4 : -1000 ≤ a
  h5 : a ≤ 1000
theorem place_good (s a o P N : Int) (g : PGood s a o P N) (w : World) :
    Calls Tryd.prog 26 #[.agg #[.int .i64 s, .int .i64 a, .int .i64 o]] w fun e w' => e = .returned (.int .i64 P) ∧ Below w.heap.size w w' :=
  g.eP ▸ place_any s a o w g.h0 g.h1 g.h2 g.h3
theorem sound_good (s a o P N : Int) (g : PGood s a o P N) (w : World) :
    Calls Tryd.prog 31 #[.agg #[.int .i64 s, .int .i64 a, .int .i64 o]] w fun e w' => e = .returned (.int .i64 N) ∧ Below w.heap.size w w' :=
  g.eN ▸ sound_any s a o w g.h0 g.h1 g.h2 g.h3 g.h4 g.h5

set_option maxHeartbeats 1600000 in
theorem rbetween_is (s a o p b q : Int) (I T E : Int) (h : Pt.betR s a o p b q = (I, T, E)) (w : World) :
    Calls Tryd.prog 17 #[.agg #[.int .i64 s, .int .i64 a, .int .i64 o], .agg #[.int .i64 p, .int .i64 b, .int .i64 q]] w fun e w' => e = .returned (.tuple #[.agg #[.int .i64 I, .int .i64 T], .int .i64 E]) ∧ Below w.heap.size w w' := by
  unfold Pt.betR at h
  by_cases hv : (Pt.pv s a o && Pt.pv p b q) = true
  · rw [if_pos hv] at h
    simp only [Bool.and_eq_true] at hv
    have HV := Lib.hid hv.1
    have HU := Lib.hid hv.2
    obtain ⟨⟨l1, l2, l3, l4, l5, l6⟩, m1, m2, m3, m4, m5, m6⟩ := And.intro (Pt.pv_iff.1 hv.1) (Pt.pv_iff.1 hv.2)
    clear hv
    have QA : PGood s a o (7 * o + s) (Pt.snd s a o) := ⟨rfl, rfl, by omega, by omega, by omega, by omega, by omega, by omega⟩
    have QB : PGood p b q (7 * q + p) (Pt.snd p b q) := ⟨rfl, rfl, by omega, by omega, by omega, by omega, by omega, by omega⟩
    have i1 := Pt.natI_in l1 l2
    have i2 := Pt.natI_in m1 m2
    have lP1 : -1000 ≤ 7 * o + s ∧ 7 * o + s ≤ 1000 := by omega
    have lP2 : -1000 ≤ 7 * q + p ∧ 7 * q + p ≤ 1000 := by omega
    have lN1 : -1000 ≤ Pt.snd s a o ∧ Pt.snd s a o ≤ 1000 := by unfold Pt.snd; omega
    have lN2 : -1000 ≤ Pt.snd p b q ∧ Pt.snd p b q ≤ 1000 := by unfold Pt.snd; omega
    clear i1 i2 l1 l2 l3 l4 l5 l6 m1 m2 m3 m4 m5 m6
    unfold Pt.place at h
    generalize 7 * o + s = P1 at *
    generalize 7 * q + p = P2 at *
    generalize Pt.snd s a o = N1 at *
    generalize Pt.snd p b q = N2 at *
    obtain ⟨⟨lP1, kP1⟩, ⟨lP2, kP2⟩, ⟨lN1, kN1⟩, lN2, kN2⟩ := And.intro lP1 (And.intro lP2 (And.intro lN1 lN2))
    go_enter Tryd.func17, Tryd.ntmps17
    go_wp2_with fail
    refine (pvalid_is _ _ _ _ HV.out _).mono ?_; rintro e w1 ⟨rfl, hb1⟩
    have S1 : w1.heap.size ≥ w.heap.size + 3 := by have := hb1.size; simp at this; omega
    have A := (((At3.new w s a o _).alloc _).alloc _).below hb1
    have B := ((At3.new (w.alloc _) p b q _).alloc _).below hb1
    have V := (Var2.new ((w.alloc _).alloc _) 0 0 _).below hb1
    have G : Below w.heap.size w w1 := ((((Below.refl _ _).alloc (Nat.le_refl _) _).alloc (by simp) _).alloc (by simp; omega) _).trans (hb1.mono (by simp; omega))
    simp only [World.size_alloc] at B V
    clear hb1
    obtain ⟨b0, b1, b2⟩ := And.intro B.c0 (And.intro B.c1 B.c2)
    go_wp2_with fail
    refine (pvalid_is _ _ _ _ HU.out _).mono ?_; rintro e w2 ⟨rfl, hb2⟩
    replace A := A.below hb2
    replace B := B.below hb2
    replace V := V.below hb2
    replace G := G.trans (hb2.mono (by omega))
    have S2 : w2.heap.size ≥ w.heap.size + 3 := by have := hb2.size; omega
    clear hb2 b0 b1 b2
    obtain ⟨a0, a1, a2, b0, b1, b2⟩ := And.intro A.c0 (And.intro A.c1 (And.intro A.c2 (And.intro B.c0 (And.intro B.c1 B.c2))))
    have lA := A.lt
    have lB := B.lt
    have xa0 := fun w' (hb : Below w2.heap.size w2 w') => (hb.cell (p := ⟨w.heap.size, 0, none⟩) lA).trans a0
    have xa1 := fun w' (hb : Below w2.heap.size w2 w') => (hb.cell (p := ⟨w.heap.size, 1, none⟩) lA).trans a1
    have xa2 := fun w' (hb : Below w2.heap.size w2 w') => (hb.cell (p := ⟨w.heap.size, 2, none⟩) lA).trans a2
    have xb0 := fun w' (hb : Below w2.heap.size w2 w') => (hb.cell (p := ⟨w.heap.size + 1, 0, none⟩) lB).trans b0
    have xb1 := fun w' (hb : Below w2.heap.size w2 w') => (hb.cell (p := ⟨w.heap.size + 1, 1, none⟩) lB).trans b1
    have xb2 := fun w' (hb : Below w2.heap.size w2 w') => (hb.cell (p := ⟨w.heap.size + 1, 2, none⟩) lB).trans b2
    clear a0 a1 a2 b0 b1 b2
    have eP : IntKind.i64.wrap (P2 - P1) = P2 - P1 := by rw [IntKind.wrap_i64]; omega
    have eN : IntKind.i64.wrap (N2 - N1) = N2 - N1 := by rw [IntKind.wrap_i64]; omega
    have rfl0 := Below.refl w2.heap.size w2
    go_wp2_with fail
    go_cut [8] (fun sp wc => ∃ g : Nat, sp = .pointer (some ⟨g, 0, none⟩) ∧ At2 wc g (P2 - P1) (N2 - N1) ∧ Below w2.heap.size w2 wc)
    case first =>
      go_region_held3 (fun w' => Below w2.heap.size w2 w')
        ((go_split_ands; (first | (with_reducible assumption) | (with_reducible exact Below.drew (Below.refl _ _)) | (with_reducible exact Below.drew (Below.alloc (Below.refl _ _) (Nat.le_refl _) _)) | ((with_reducible refine Below.alloc ?_ ?_ _); assumption; (apply Below.size; assumption)) | ((with_reducible refine Below.setCell (Below.setCell ?_ ?_ _) ?_ _); assumption; (simp <;> omega); (simp <;> omega)))))
        ((first | (go_at_call 26; (with_reducible refine (place_good _ _ _ _ _ QB _).mono ?_); rintro e wm ⟨rfl, hbm⟩; go_split_ands; have hbcm : Below w2.heap.size w2 wm := Below.trans (by first | assumption | exact Below.drew (Below.refl _ _) | exact Below.drew (Below.alloc (Below.refl _ _) (Nat.le_refl _) _)) (hbm.mono (Below.size (by first | assumption | exact Below.drew (Below.refl _ _) | exact Below.drew (Below.alloc (Below.refl _ _) (Nat.le_refl _) _)))); obtain ⟨hcm, hfm⟩ := bcell hbm; have hzm := hbm.size; have hlm := fun n h => Nat.lt_of_lt_of_le (n := n) h (Below.size hbm); (try simp at hzm); (try simp only [Nat.add_one_le_iff] at hzm); (try have hs2m : w2.heap.size < wm.heap.size := (by omega))) | (go_at_call 26; (with_reducible refine (place_good _ _ _ _ _ QA _).mono ?_); rintro e wn ⟨rfl, hbn⟩; go_split_ands; have hbcn : Below w2.heap.size w2 wn := Below.trans (by first | assumption | exact Below.drew (Below.refl _ _) | exact Below.drew (Below.alloc (Below.refl _ _) (Nat.le_refl _) _)) (hbn.mono (Below.size (by first | assumption | exact Below.drew (Below.refl _ _) | exact Below.drew (Below.alloc (Below.refl _ _) (Nat.le_refl _) _)))); obtain ⟨hcn, hfn⟩ := bcell hbn; have hzn := hbn.size; have hln := fun n h => Nat.lt_of_lt_of_le (n := n) h (Below.size hbn); (try simp at hzn); (try simp only [Nat.add_one_le_iff] at hzn); (try have hs2n : w2.heap.size < wn.heap.size := (by omega)); (try have hsmn : wm.heap.size < wn.heap.size := (by omega))) | (go_at_call 31; (with_reducible refine (sound_good _ _ _ _ _ QB _).mono ?_); rintro e wx ⟨rfl, hbx⟩; go_split_ands; have hbcx : Below w2.heap.size w2 wx := Below.trans (by first | assumption | exact Below.drew (Below.refl _ _) | exact Below.drew (Below.alloc (Below.refl _ _) (Nat.le_refl _) _)) (hbx.mono (Below.size (by first | assumption | exact Below.drew (Below.refl _ _) | exact Below.drew (Below.alloc (Below.refl _ _) (Nat.le_refl _) _)))); obtain ⟨hcx, hfx⟩ := bcell hbx; have hzx := hbx.size; have hlx := fun n h => Nat.lt_of_lt_of_le (n := n) h (Below.size hbx); (try simp at hzx); (try simp only [Nat.add_one_le_iff] at hzx); (try have hs2x : w2.heap.size < wx.heap.size := (by omega)); (try have hsmx : wm.heap.size < wx.heap.size := (by omega)); (try have hsnx : wn.heap.size < wx.heap.size := (by omega))) | (go_at_call 31; (with_reducible refine (sound_good _ _ _ _ _ QA _).mono ?_); rintro e wy ⟨rfl, hby⟩; go_split_ands; have hbcy : Below w2.heap.size w2 wy := Below.trans (by first | assumption | exact Below.drew (Below.refl _ _) | exact Below.drew (Below.alloc (Below.refl _ _) (Nat.le_refl _) _)) (hby.mono (Below.size (by first | assumption | exact Below.drew (Below.refl _ _) | exact Below.drew (Below.alloc (Below.refl _ _) (Nat.le_refl _) _)))); obtain ⟨hcy, hfy⟩ := bcell hby; have hzy := hby.size; have hly := fun n h => Nat.lt_of_lt_of_le (n := n) h (Below.size hby); (try simp at hzy); (try simp only [Nat.add_one_le_iff] at hzy); (try have hs2y : w2.heap.size < wy.heap.size := (by omega)); (try have hsmy : wm.heap.size < wy.heap.size := (by omega)); (try have hsny : wn.heap.size < wy.heap.size := (by omega)); (try have hsxy : wx.heap.size < wy.heap.size := (by omega)))))
      all_goals
        go_split_ands
        go_wp2_with fail
        go_meet
        refine ⟨_, rfl, ⟨?_, ?_, ?_⟩, ?_⟩
        · first | (simp; done) | (simp; omega)
        · go_simp
        · go_simp
        · assumption
    obtain ⟨g, rfl, hO, hBO⟩ := hcut
    have A4 := hO
    replace V := V.below hBO
    replace G := G.trans (hBO.mono (by omega))
    have S3 := hBO.size
    clear hO hBO xa0 xa1 xa2 xb0 xb1 xb2 rfl0 lA lB
    obtain ⟨v0, v1, f0, f1⟩ := And.intro V.at2.c0 (And.intro V.at2.c1 (And.intro V.f0 V.f1))
    obtain ⟨a0, a1⟩ := And.intro A4.c0 A4.c1
    by_cases hz : Pt.iv (P2 - P1) (N2 - N1) = true
    · rw [if_pos hz] at h
      simp only [Prod.mk.injEq] at h
      obtain ⟨rfl, rfl, rfl⟩ := h
      have HZ := Lib.hid hz
      clear hz
      go_wp2_with fail
      refine (form_is _ _ _ HZ.out _).mono ?_; rintro e w3 ⟨rfl, hb3⟩
      replace A4 := A4.below hb3
      replace V := V.below hb3
      replace G := G.trans (hb3.mono (by omega))
      have S4 := hb3.size
      clear hb3 a0 a1 v0 v1 f0 f1
      obtain ⟨a0, a1⟩ := And.intro A4.c0 A4.c1
      obtain ⟨v0, v1, f0, f1⟩ := And.intro V.at2.c0 (And.intro V.at2.c1 (And.intro V.f0 V.f1))
      go_wp2_with fail
      refine bodyPost_ret (v := .tuple #[.agg #[.int .i64 (P2 - P1), .int .i64 (N2 - N1)], .int .i64 0]) (by simp [results, Tryd.results17, go_sem, v0, v1]) rfl ⟨rfl, ?_⟩
      exact (G.setCell (by simp <;> omega) _).setCell (by simp <;> omega) _
    · rw [if_neg hz] at h
      simp only [Prod.mk.injEq] at h
      obtain ⟨rfl, rfl, rfl⟩ := h
      have HZ : Hid (Pt.iv (P2 - P1) (N2 - N1) = false) := Lib.hid (by simpa using hz)
      clear hz
      go_wp2_with fail
      refine (form_is _ _ _ HZ.out _).mono ?_; rintro e w3 ⟨rfl, hb3⟩
      replace V := V.below hb3
      replace G := G.trans (hb3.mono (by omega))
      have S4 := hb3.size
      clear hb3 a0 a1 v0 v1 f0 f1
      obtain ⟨v0, v1, f0, f1⟩ := And.intro V.at2.c0 (And.intro V.at2.c1 (And.intro V.f0 V.f1))
      go_wp2_with fail
      refine bodyPost_ret (v := .tuple #[.agg #[.int .i64 0, .int .i64 0], .int .i64 3]) (by simp [results, Tryd.results17, go_sem, v0, v1]) rfl ⟨rfl, ?_⟩
      exact (G.setCell (by simp <;> omega) _).setCell (by simp <;> omega) _
  · have hv' : (Pt.pv s a o && Pt.pv p b q) = false := by simpa using hv
    rw [if_neg hv] at h
    simp only [Prod.mk.injEq] at h
    obtain ⟨rfl, rfl, rfl⟩ := h
    obtain ⟨x, hx⟩ : ∃ x, Pt.pv s a o = x := ⟨_, rfl⟩
    obtain ⟨y, hy⟩ : ∃ y, Pt.pv p b q = y := ⟨_, rfl⟩
    rw [hx, hy] at hv'
    have HV := Lib.hid hx
    have HU := Lib.hid hy
    clear hx hy hv
    cases x <;> cases y
    case true.true => exact absurd hv' (by simp)
    all_goals
    go_enter Tryd.func17, Tryd.ntmps17
    go_wp2_with fail
    refine (pvalid_is _ _ _ _ HV.out _).mono ?_; rintro e w1 ⟨rfl, hb1⟩
    have S1 : w1.heap.size ≥ w.heap.size + 3 := by have := hb1.size; simp at this; omega
    have A := (((At3.new w s a o _).alloc _).alloc _).below hb1
    have B := ((At3.new (w.alloc _) p b q _).alloc _).below hb1
    have V := (Var2.new ((w.alloc _).alloc _) 0 0 _).below hb1
    have G : Below w.heap.size w w1 := ((((Below.refl _ _).alloc (Nat.le_refl _) _).alloc (by simp) _).alloc (by simp; omega) _).trans (hb1.mono (by simp; omega))
    simp only [World.size_alloc] at B V
    clear hb1
    obtain ⟨b0, b1, b2⟩ := And.intro B.c0 (And.intro B.c1 B.c2)
    go_wp2_with fail
    refine (pvalid_is _ _ _ _ HU.out _).mono ?_; rintro e w2 ⟨rfl, hb2⟩
    replace A := A.below hb2
    replace B := B.below hb2
    replace V := V.below hb2
    replace G := G.trans (hb2.mono (by omega))
    have S2 : w2.heap.size ≥ w.heap.size + 3 := by have := hb2.size; omega
    clear hb2 b0 b1 b2
    obtain ⟨v0, v1, f0, f1⟩ := And.intro V.at2.c0 (And.intro V.at2.c1 (And.intro V.f0 V.f1))
    go_wp2_with fail
    refine bodyPost_ret (v := .tuple #[.agg #[.int .i64 0, .int .i64 0], .int .i64 1]) (by simp [results, Tryd.results17, go_sem, v0, v1]) rfl ⟨rfl, ?_⟩
    exact (G.setCell (by simp <;> omega) _).setCell (by simp <;> omega) _
end Go.Proofs.YtgehnciegolkhaaDoor
