/- The walks of pitch's functions on intervals. -/
import Derived.Test.YtnjacgjcoikngaaDoorFa
import Derived.WalkSmall
namespace Go.Proofs.YtnjacgjcoikngaaDoor
open Go.RowKit

set_option maxHeartbeats 800000 in
theorem wellFormed_is (i t : Int) (v : Bool) (hv : Pt.iv i t = v) (w : World) :
    Calls Tryd.prog 44 #[.agg #[.int .i64 i, .int .i64 t]] w fun e w' => e = .returned (.bool v) ∧ Below w.heap.size w w' := by
  obtain ⟨x, hx⟩ : ∃ x, nr i (-70) 70 = x := ⟨_, rfl⟩
  obtain ⟨y, hy⟩ : ∃ y, nr t (-120) 120 = y := ⟨_, rfl⟩
  have e : v = (decide (i = x) && decide (t = y)) := by
    rw [← hv, Bool.eq_iff_iff, Pt.iv_iff, ← hx, ← hy]
    simp only [Bool.and_eq_true, decide_eq_true_eq]
    rw [eq_comm (a := i), eq_comm (a := t), nr_eq (by omega), nr_eq (by omega)]
    omega
  have HX := Lib.hid hx
  have HY := Lib.hid hy
  clear hx hy hv
  by_cases h1 : i = x <;> by_cases h2 : t = y
  all_goals
    simp only [h1, h2, decide_true, decide_false, Bool.and_true, Bool.and_false] at e
    subst e
    try subst h1
    try subst h2
    go_enter Tryd.func44, Tryd.ntmps44
    go_wp2_with fail
    go_quiet ((go_at_call 50; first | (with_reducible exact quiet_left (nearest_is _ _ _ _ HX.out _)) | (with_reducible exact quiet_left (nearest_is _ _ _ _ HY.out _))))
    go_wp2_with fail
    go_ret
    exact ⟨rfl, below_drewN (by go_grown) _⟩

set_option maxHeartbeats 400000 in
theorem ranged_is (i t I T E : Int) (h : (if Pt.iv i t = true then (i, t, (0 : Int)) else (0, 0, 3)) = (I, T, E)) (w : World) :
    Calls Tryd.prog 48 #[.agg #[.int .i64 i, .int .i64 t]] w fun e w' => e = .returned (.tuple #[.agg #[.int .i64 I, .int .i64 T], .int .i64 E]) ∧ Below w.heap.size w w' := by
  by_cases hv : Pt.iv i t = true
  · rw [if_pos hv] at h
    simp only [Prod.mk.injEq] at h
    obtain ⟨rfl, rfl, rfl⟩ := h
    have HV := Lib.hid hv
    clear hv
    go_enter Tryd.func48, Tryd.ntmps48
    go_wp2_with fail
    refine (wellFormed_is _ _ _ HV.out _).mono ?_; rintro e w1 ⟨rfl, hb1⟩
    have A := ((At2.new w i t _).alloc _).below hb1
    have V := (Var2.new (w.alloc _) 0 0 _).below hb1
    have G : Below w.heap.size w w1 := (((Below.refl _ _).alloc (Nat.le_refl _) _).alloc (by simp) _).trans (hb1.mono (by simp; omega))
    have S1 : w.heap.size + 2 ≤ w1.heap.size := by have := hb1.size; simp at this; omega
    simp only [World.size_alloc] at V
    clear hb1
    obtain ⟨a0, a1, v0, v1⟩ := And.intro A.c0 (And.intro A.c1 (And.intro V.at2.c0 V.at2.c1))
    have f0 := V.f0; have f1 := V.f1
    go_wp2_with fail
    refine bodyPost_ret (v := .tuple #[.agg #[.int .i64 i, .int .i64 t], .int .i64 0]) (by simp [results, Tryd.results48, go_sem, v0, v1]) rfl ⟨rfl, ?_⟩
    exact (G.setCell (by simp) _).setCell (by simp) _
  · have hv' : Pt.iv i t = false := by simpa using hv
    rw [if_neg hv] at h
    simp only [Prod.mk.injEq] at h
    obtain ⟨rfl, rfl, rfl⟩ := h
    have HV := Lib.hid hv'
    clear hv hv'
    go_enter Tryd.func48, Tryd.ntmps48
    go_wp2_with fail
    refine (wellFormed_is _ _ _ HV.out _).mono ?_; rintro e w1 ⟨rfl, hb1⟩
    have V := (Var2.new (w.alloc _) 0 0 _).below hb1
    have G : Below w.heap.size w w1 := (((Below.refl _ _).alloc (Nat.le_refl _) _).alloc (by simp) _).trans (hb1.mono (by simp; omega))
    have S1 : w.heap.size + 2 ≤ w1.heap.size := by have := hb1.size; simp at this; omega
    simp only [World.size_alloc] at V
    clear hb1
    obtain ⟨v0, v1⟩ := And.intro V.at2.c0 V.at2.c1
    have f0 := V.f0; have f1 := V.f1
    go_wp2_with fail
    refine bodyPost_ret (v := .tuple #[.agg #[.int .i64 0, .int .i64 0], .int .i64 3]) (by simp [results, Tryd.results48, go_sem, v0, v1]) rfl ⟨rfl, ?_⟩
    exact (G.setCell (by simp) _).setCell (by simp) _

set_option maxHeartbeats 400000 in
theorem back_is (i t I T E : Int) (h : Pt.backR i t = (I, T, E)) (w : World) :
    Calls Tryd.prog 27 #[.agg #[.int .i64 i, .int .i64 t]] w fun e w' => e = .returned (.tuple #[.agg #[.int .i64 I, .int .i64 T], .int .i64 E]) ∧ Below w.heap.size w w' := by
  unfold Pt.backR at h
  by_cases hv : Pt.iv i t = true
  · rw [if_pos hv] at h
    simp only [Prod.mk.injEq] at h
    obtain ⟨rfl, rfl, rfl⟩ := h
    obtain ⟨l1, l2, l3, l4⟩ := Pt.iv_iff.1 hv
    have HV := Lib.hid hv
    clear hv
    go_enter Tryd.func27, Tryd.ntmps27
    go_wp2_with fail
    refine (wellFormed_is _ _ _ HV.out _).mono ?_; rintro e w1 ⟨rfl, hb1⟩
    have A := ((At2.new w i t _).alloc _).below hb1
    have V := (Var2.new (w.alloc _) 0 0 _).below hb1
    have G : Below w.heap.size w w1 := (((Below.refl _ _).alloc (Nat.le_refl _) _).alloc (by simp) _).trans (hb1.mono (by simp; omega))
    have S1 : w.heap.size + 2 ≤ w1.heap.size := by have := hb1.size; simp at this; omega
    simp only [World.size_alloc] at V
    clear hb1
    obtain ⟨a0, a1, v0, v1⟩ := And.intro A.c0 (And.intro A.c1 (And.intro V.at2.c0 V.at2.c1))
    have f0 := V.f0; have f1 := V.f1
    go_wp2_with fail
    refine bodyPost_ret (v := .tuple #[.agg #[.int .i64 (-i), .int .i64 (-t)], .int .i64 0]) (by simp [results, Tryd.results27, go_sem, v0, v1]) rfl ⟨rfl, ?_⟩
    exact (G.setCell (by simp) _).setCell (by simp) _
  · have hv' : Pt.iv i t = false := by simpa using hv
    rw [if_neg hv] at h
    simp only [Prod.mk.injEq] at h
    obtain ⟨rfl, rfl, rfl⟩ := h
    have HV := Lib.hid hv'
    clear hv hv'
    go_enter Tryd.func27, Tryd.ntmps27
    go_wp2_with fail
    refine (wellFormed_is _ _ _ HV.out _).mono ?_; rintro e w1 ⟨rfl, hb1⟩
    have V := (Var2.new (w.alloc _) 0 0 _).below hb1
    have G : Below w.heap.size w w1 := (((Below.refl _ _).alloc (Nat.le_refl _) _).alloc (by simp) _).trans (hb1.mono (by simp; omega))
    have S1 : w.heap.size + 2 ≤ w1.heap.size := by have := hb1.size; simp at this; omega
    simp only [World.size_alloc] at V
    clear hb1
    obtain ⟨v0, v1⟩ := And.intro V.at2.c0 V.at2.c1
    have f0 := V.f0; have f1 := V.f1
    go_wp2_with fail
    refine bodyPost_ret (v := .tuple #[.agg #[.int .i64 0, .int .i64 0], .int .i64 1]) (by simp [results, Tryd.results27, go_sem, v0, v1]) rfl ⟨rfl, ?_⟩
    exact (G.setCell (by simp) _).setCell (by simp) _

set_option maxHeartbeats 1600000 in
theorem join_is (i t j u I T E : Int) (h : Pt.joinR i t j u = (I, T, E)) (w : World) :
    Calls Tryd.prog 26 #[.agg #[.int .i64 i, .int .i64 t], .agg #[.int .i64 j, .int .i64 u]] w fun e w' => e = .returned (.tuple #[.agg #[.int .i64 I, .int .i64 T], .int .i64 E]) ∧ Below w.heap.size w w' := by
  unfold Pt.joinR at h
  by_cases hv : (Pt.iv i t && Pt.iv j u) = true
  · rw [if_pos hv] at h
    simp only [Bool.and_eq_true] at hv
    have HV := Lib.hid hv.1
    have HU := Lib.hid hv.2
    obtain ⟨⟨l1, l2, l3, l4⟩, l5, l6, l7, l8⟩ := And.intro (Pt.iv_iff.1 hv.1) (Pt.iv_iff.1 hv.2)
    have HR := Lib.hid h
    clear hv h
    go_enter Tryd.func26, Tryd.ntmps26
    go_wp2_with fail
    refine (wellFormed_is _ _ _ HV.out _).mono ?_; rintro e w1 ⟨rfl, hb1⟩
    have S1 : w.heap.size + 3 ≤ w1.heap.size := by have := hb1.size; simp at this; omega
    have A := (((At2.new w i t _).alloc _).alloc _).below hb1
    have B := ((At2.new (w.alloc _) j u _).alloc _).below hb1
    have V := (Var2.new ((w.alloc _).alloc _) 0 0 _).below hb1
    have G : Below w.heap.size w w1 := ((((Below.refl _ _).alloc (Nat.le_refl _) _).alloc (by simp) _).alloc (by simp; omega) _).trans (hb1.mono (by simp; omega))
    simp only [World.size_alloc] at B V
    clear hb1
    obtain ⟨b0, b1⟩ := And.intro B.c0 B.c1
    go_wp2_with fail
    refine (wellFormed_is _ _ _ HU.out _).mono ?_; rintro e w2 ⟨rfl, hb2⟩
    replace A := A.below hb2
    replace B := B.below hb2
    replace V := V.below hb2
    replace G := G.trans (hb2.mono (by omega))
    have S2 : w.heap.size + 3 ≤ w2.heap.size := by have := hb2.size; omega
    clear b0 b1
    clear hb2
    obtain ⟨a0, a1, b0, b1⟩ := And.intro A.c0 (And.intro A.c1 (And.intro B.c0 B.c1))
    go_wp2_with fail
    refine (ranged_is _ _ _ _ _ HR.out _).mono ?_; rintro e w3 ⟨rfl, hb3⟩
    replace V := V.below hb3
    replace G := G.trans (hb3.mono (by omega))
    clear hb3 a0 a1 b0 b1 HR
    obtain ⟨v0, v1, f0, f1⟩ := And.intro V.at2.c0 (And.intro V.at2.c1 (And.intro V.f0 V.f1))
    go_wp2_with fail
    refine bodyPost_ret (v := .tuple #[.agg #[.int .i64 I, .int .i64 T], .int .i64 E]) (by simp [results, Tryd.results26, go_sem, v0, v1]) rfl ⟨rfl, ?_⟩
    exact (G.setCell (by simp <;> omega) _).setCell (by simp <;> omega) _
  · have hv' : (Pt.iv i t && Pt.iv j u) = false := by simpa using hv
    rw [if_neg hv] at h
    simp only [Prod.mk.injEq] at h
    obtain ⟨rfl, rfl, rfl⟩ := h
    by_cases hx : Pt.iv i t = true
    · have HV := Lib.hid hx
      have HU : Hid (Pt.iv j u = false) := Lib.hid (by simpa [hx] using hv')
      clear hv hv' hx
      go_enter Tryd.func26, Tryd.ntmps26
      go_wp2_with fail
      refine (wellFormed_is _ _ _ HV.out _).mono ?_; rintro e w1 ⟨rfl, hb1⟩
      have S1 : w.heap.size + 3 ≤ w1.heap.size := by have := hb1.size; simp at this; omega
      have A := (((At2.new w i t _).alloc _).alloc _).below hb1
      have B := ((At2.new (w.alloc _) j u _).alloc _).below hb1
      have V := (Var2.new ((w.alloc _).alloc _) 0 0 _).below hb1
      have G : Below w.heap.size w w1 := ((((Below.refl _ _).alloc (Nat.le_refl _) _).alloc (by simp) _).alloc (by simp; omega) _).trans (hb1.mono (by simp; omega))
      simp only [World.size_alloc] at B V
      clear hb1
      obtain ⟨b0, b1⟩ := And.intro B.c0 B.c1
      go_wp2_with fail
      refine (wellFormed_is _ _ _ HU.out _).mono ?_; rintro e w2 ⟨rfl, hb2⟩
      replace A := A.below hb2
      replace B := B.below hb2
      replace V := V.below hb2
      replace G := G.trans (hb2.mono (by omega))
      have S2 : w.heap.size + 3 ≤ w2.heap.size := by have := hb2.size; omega
      clear b0 b1
      clear hb2
      obtain ⟨v0, v1, f0, f1⟩ := And.intro V.at2.c0 (And.intro V.at2.c1 (And.intro V.f0 V.f1))
      go_wp2_with fail
      refine bodyPost_ret (v := .tuple #[.agg #[.int .i64 0, .int .i64 0], .int .i64 1]) (by simp [results, Tryd.results26, go_sem, v0, v1]) rfl ⟨rfl, ?_⟩
      exact (G.setCell (by simp <;> omega) _).setCell (by simp <;> omega) _
    · have HV : Hid (Pt.iv i t = false) := Lib.hid (by simpa using hx)
      clear hv hv' hx
      go_enter Tryd.func26, Tryd.ntmps26
      go_wp2_with fail
      refine (wellFormed_is _ _ _ HV.out _).mono ?_; rintro e w1 ⟨rfl, hb1⟩
      have S1 : w.heap.size + 3 ≤ w1.heap.size := by have := hb1.size; simp at this; omega
      have A := (((At2.new w i t _).alloc _).alloc _).below hb1
      have B := ((At2.new (w.alloc _) j u _).alloc _).below hb1
      have V := (Var2.new ((w.alloc _).alloc _) 0 0 _).below hb1
      have G : Below w.heap.size w w1 := ((((Below.refl _ _).alloc (Nat.le_refl _) _).alloc (by simp) _).alloc (by simp; omega) _).trans (hb1.mono (by simp; omega))
      simp only [World.size_alloc] at B V
      clear hb1
      obtain ⟨v0, v1, f0, f1⟩ := And.intro V.at2.c0 (And.intro V.at2.c1 (And.intro V.f0 V.f1))
      go_wp2_with fail
      refine bodyPost_ret (v := .tuple #[.agg #[.int .i64 0, .int .i64 0], .int .i64 1]) (by simp [results, Tryd.results26, go_sem, v0, v1]) rfl ⟨rfl, ?_⟩
      exact (G.setCell (by simp <;> omega) _).setCell (by simp <;> omega) _
end Go.Proofs.YtnjacgjcoikngaaDoor
