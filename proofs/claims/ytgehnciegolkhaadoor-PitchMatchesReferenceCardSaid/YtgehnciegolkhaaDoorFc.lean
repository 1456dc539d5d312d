/- The walks of pitch's divide, ranged, Number, Back. -/
import Derived.Test.YtgehnciegolkhaaDoorFb
namespace Go.Proofs.YtgehnciegolkhaaDoor
open Go.RowKit

set_option maxHeartbeats 800000 in
theorem divide_is (n q r : Int) (hq : n / 7 = q) (hr : n % 7 = r) (l1 : -10000 ≤ n) (l2 : n ≤ 10000) (w : World) :
    Calls Tryd.prog 33 #[.int .i64 n, .int .i64 7] w fun e w' => e = .returned (.tuple #[.int .i64 q, .int .i64 r]) ∧ Below w.heap.size w w' := by
  have T1 := Int.mul_tdiv_add_tmod n 7
  have T2 := Int.tmod_lt_of_pos n (b := 7) (by omega)
  have T3 := Int.lt_tmod_of_pos n (b := 7) (by omega)
  have hw1 : IntKind.i64.wrap (n.tdiv 7) = n.tdiv 7 := by rw [IntKind.wrap_i64]; omega
  have hw2 : IntKind.i64.wrap (n.tmod 7) = n.tmod 7 := by rw [IntKind.wrap_i64]; omega
  have hne := Ext.there w
  by_cases hs : n.tmod 7 < 0
  · have e1 : r = n.tmod 7 + 7 := by omega
    have e2 : q = n.tdiv 7 - 1 := by omega
    subst e1 e2
    clear hq hr
    go_enter Tryd.func33, Tryd.ntmps33
    go_wp2_with fail
    refine Ext.region (by kernel_rfl) (by kernel_rfl) ?_
    repeat (go_big_quiet_step (fail))
    refine wpQuiet_nil ?_
    rintro _ ⟨xw, rfl⟩
    have hb := xw.h
    generalize xw.w = w3 at *
    clear xw
    go_wp2_with fail
    go_ret2
    exact ⟨rfl, hb⟩
  · have e1 : r = n.tmod 7 := by omega
    have e2 : q = n.tdiv 7 := by omega
    subst e1 e2
    clear hq hr
    go_enter Tryd.func33, Tryd.ntmps33
    go_wp2_with fail
    refine Ext.region (by kernel_rfl) (by kernel_rfl) ?_
    repeat (go_big_quiet_step (fail))
    refine wpQuiet_nil ?_
    rintro _ ⟨xw, rfl⟩
    have hb := xw.h
    generalize xw.w = w3 at *
    clear xw
    go_wp2_with fail
    go_ret2
    exact ⟨rfl, hb⟩

set_option maxHeartbeats 400000 in
theorem ranged_is (i t I T E : Int) (h : (if Pt.iv i t = true then (i, t, (0 : Int)) else (0, 0, 3)) = (I, T, E)) (w : World) :
    Calls Tryd.prog 36 #[.agg #[.int .i64 i, .int .i64 t]] w fun e w' => e = .returned (.tuple #[.agg #[.int .i64 I, .int .i64 T], .int .i64 E]) ∧ Below w.heap.size w w' := by
  by_cases hv : Pt.iv i t = true
  · rw [if_pos hv] at h
    simp only [Prod.mk.injEq] at h
    obtain ⟨rfl, rfl, rfl⟩ := h
    have HV := Lib.hid hv
    clear hv
    go_enter Tryd.func36, Tryd.ntmps36
    go_wp2_with fail
    refine (wellFormed_is _ _ _ HV.out _).mono ?_; rintro e w1 ⟨rfl, hb1⟩
    have A := ((At2.new w i t _).alloc _).below hb1
    have V := (Var2.new (w.alloc _) 0 0 _).below hb1
    have G : Below w.heap.size w w1 := (((Below.refl _ _).alloc (Nat.le_refl _) _).alloc (by simp) _).trans (hb1.mono (by simp; omega))
    have S1 : w.heap.size + 2 ≤ w1.heap.size := by have := hb1.size; simp at this; omega
    simp only [World.size_alloc] at V
    clear hb1
    obtain ⟨a0, a1, v0, v1⟩ := And.intro A.c0 (And.intro A.c1 (And.intro V.at2.c0 V.at2.c1))
    have f0 := V.f0; have f1 := V.f1
    go_wp2_with fail
    refine bodyPost_ret (v := .tuple #[.agg #[.int .i64 i, .int .i64 t], .int .i64 0]) (by simp [results, Tryd.results36, go_sem, v0, v1]) rfl ⟨rfl, ?_⟩
    exact (G.setCell (by simp) _).setCell (by simp) _
  · have hv' : Pt.iv i t = false := by simpa using hv
    rw [if_neg hv] at h
    simp only [Prod.mk.injEq] at h
    obtain ⟨rfl, rfl, rfl⟩ := h
    have HV := Lib.hid hv'
    clear hv hv'
    go_enter Tryd.func36, Tryd.ntmps36
    go_wp2_with fail
    refine (wellFormed_is _ _ _ HV.out _).mono ?_; rintro e w1 ⟨rfl, hb1⟩
    have V := (Var2.new (w.alloc _) 0 0 _).below hb1
    have G : Below w.heap.size w w1 := (((Below.refl _ _).alloc (Nat.le_refl _) _).alloc (by simp) _).trans (hb1.mono (by simp; omega))
    have S1 : w.heap.size + 2 ≤ w1.heap.size := by have := hb1.size; simp at this; omega
    simp only [World.size_alloc] at V
    clear hb1
    obtain ⟨v0, v1⟩ := And.intro V.at2.c0 V.at2.c1
    have f0 := V.f0; have f1 := V.f1
    go_wp2_with fail
    refine bodyPost_ret (v := .tuple #[.agg #[.int .i64 0, .int .i64 0], .int .i64 3]) (by simp [results, Tryd.results36, go_sem, v0, v1]) rfl ⟨rfl, ?_⟩
    exact (G.setCell (by simp) _).setCell (by simp) _

set_option maxHeartbeats 400000 in
theorem back_is (i t I T E : Int) (h : Pt.backR i t = (I, T, E)) (w : World) :
    Calls Tryd.prog 20 #[.agg #[.int .i64 i, .int .i64 t]] w fun e w' => e = .returned (.tuple #[.agg #[.int .i64 I, .int .i64 T], .int .i64 E]) ∧ Below w.heap.size w w' := by
  unfold Pt.backR at h
  by_cases hv : Pt.iv i t = true
  · rw [if_pos hv] at h
    simp only [Prod.mk.injEq] at h
    obtain ⟨rfl, rfl, rfl⟩ := h
    obtain ⟨l1, l2, l3, l4⟩ := Pt.iv_iff.1 hv
    have HV := Lib.hid hv
    clear hv
    go_enter Tryd.func20, Tryd.ntmps20
    go_wp2_with fail
    refine (wellFormed_is _ _ _ HV.out _).mono ?_; rintro e w1 ⟨rfl, hb1⟩
    have A := ((At2.new w i t _).alloc _).below hb1
    have V := (Var2.new (w.alloc _) 0 0 _).below hb1
    have G : Below w.heap.size w w1 := (((Below.refl _ _).alloc (Nat.le_refl _) _).alloc (by simp) _).trans (hb1.mono (by simp; omega))
    have S1 : w.heap.size + 2 ≤ w1.heap.size := by have := hb1.size; simp at this; omega
    simp only [World.size_alloc] at V
    clear hb1
    obtain ⟨a0, a1, v0, v1⟩ := And.intro A.c0 (And.intro A.c1 (And.intro V.at2.c0 V.at2.c1))
    have f0 := V.f0; have f1 := V.f1
    go_wp2_with fail
    refine bodyPost_ret (v := .tuple #[.agg #[.int .i64 (-i), .int .i64 (-t)], .int .i64 0]) (by simp [results, Tryd.results20, go_sem, v0, v1]) rfl ⟨rfl, ?_⟩
    exact (G.setCell (by simp) _).setCell (by simp) _
  · have hv' : Pt.iv i t = false := by simpa using hv
    rw [if_neg hv] at h
    simp only [Prod.mk.injEq] at h
    obtain ⟨rfl, rfl, rfl⟩ := h
    have HV := Lib.hid hv'
    clear hv hv'
    go_enter Tryd.func20, Tryd.ntmps20
    go_wp2_with fail
    refine (wellFormed_is _ _ _ HV.out _).mono ?_; rintro e w1 ⟨rfl, hb1⟩
    have V := (Var2.new (w.alloc _) 0 0 _).below hb1
    have G : Below w.heap.size w w1 := (((Below.refl _ _).alloc (Nat.le_refl _) _).alloc (by simp) _).trans (hb1.mono (by simp; omega))
    have S1 : w.heap.size + 2 ≤ w1.heap.size := by have := hb1.size; simp at this; omega
    simp only [World.size_alloc] at V
    clear hb1
    obtain ⟨v0, v1⟩ := And.intro V.at2.c0 V.at2.c1
    have f0 := V.f0; have f1 := V.f1
    go_wp2_with fail
    refine bodyPost_ret (v := .tuple #[.agg #[.int .i64 0, .int .i64 0], .int .i64 1]) (by simp [results, Tryd.results20, go_sem, v0, v1]) rfl ⟨rfl, ?_⟩
    exact (G.setCell (by simp) _).setCell (by simp) _

theorem NGood.of {s a o : Int} (h : Pt.pv s a o = true) : NGood s a o (7 * o + s) (Pt.snd s a o) := by
  obtain ⟨l1, l2, l3, l4, l5, l6⟩ := Pt.pv_iff.1 h
  exact ⟨rfl, rfl, l1, l2, by omega, by omega, by omega, by omega⟩

set_option maxHeartbeats 400000 in
theorem number_is (s a o V E : Int) (h : Pt.numR s a o = (V, E)) (w : World) (hG : Glob w) :
    Calls Tryd.prog 12 #[.agg #[.int .i64 s, .int .i64 a, .int .i64 o]] w fun e w' => e = .returned (.tuple #[.int .i64 V, .int .i64 E]) ∧ Below w.heap.size w w' := by
  unfold Pt.numR at h
  by_cases hv : Pt.pv s a o = true
  · rw [if_pos hv] at h
    simp only [Prod.mk.injEq] at h
    obtain ⟨rfl, rfl⟩ := h
    have Q := NGood.of hv
    have HV := Lib.hid hv
    clear hv
    go_enter Tryd.func12, Tryd.ntmps12
    go_wp2_with fail
    refine (valid_is _ _ _ _ HV.out _).mono ?_; rintro e w1 ⟨rfl, hb1⟩
    have A := (At3.new w s a o _).below hb1
    have G1 := (hG.alloc _).below hb1
    have G : Below w.heap.size w w1 := ((Below.refl _ _).alloc (Nat.le_refl _) _).trans (hb1.mono (by simp))
    have S1 : w.heap.size + 1 ≤ w1.heap.size := by have := hb1.size; simp at this; omega
    clear hb1 hG
    obtain ⟨a0, a1, a2⟩ := And.intro A.c0 (And.intro A.c1 A.c2)
    go_wp2_with fail
    refine (pnumber_is _ _ _ _ _ Q _ G1).mono ?_; rintro e w2 ⟨rfl, hb2⟩
    go_wp2_with fail
    go_ret2
    exact ⟨rfl, G.trans (hb2.mono (by omega))⟩
  · have hv' : Pt.pv s a o = false := by simpa using hv
    rw [if_neg hv] at h
    simp only [Prod.mk.injEq] at h
    obtain ⟨rfl, rfl⟩ := h
    have HV := Lib.hid hv'
    clear hv hv' hG
    go_enter Tryd.func12, Tryd.ntmps12
    go_wp2_with fail
    refine (valid_is _ _ _ _ HV.out _).mono ?_; rintro e w1 ⟨rfl, hb1⟩
    have G : Below w.heap.size w w1 := ((Below.refl _ _).alloc (Nat.le_refl _) _).trans (hb1.mono (by simp))
    clear hb1
    go_wp2_with fail
    go_ret2
    exact ⟨rfl, G⟩
end Go.Proofs.YtgehnciegolkhaaDoor
