import Derived.Test.YtbbjifhelbeniaaGreatDoorGG
import Derived.Test.YtbbjifhelbeniaaGreatDoorGE
import Derived.Test.YtbbjifhelbeniaaGreatDoorGD
import Derived.Test.YtbbjifhelbeniaaGreatDoorGF
import Derived.WalkSmall
import Derived.Test.YtbbjifhelbeniaaGreatDoorGI
/- What score calls of pitch and key: wellFormed, Back, Fifths, Number; the reference's Interval, Fifths, Sound. -/
namespace Go.Proofs.YtbbjifhelbeniaaGreatDoor
open Go.RowKit

namespace Pt
def iv (s t : Int) : Bool := decide (-70 ≤ s) && decide (s ≤ 70) && decide (-120 ≤ t) && decide (t ≤ 120)
theorem iv_iff {s t : Int} : iv s t = true ↔ -70 ≤ s ∧ s ≤ 70 ∧ -120 ≤ t ∧ t ≤ 120 := by unfold iv; simp [and_assoc]
def backR (i t : Int) : Int × Int × Int := if iv i t = true then (-i, -t, 0) else (0, 0, 1)
end Pt
namespace Ky
def fifR (i t : Int) : Int × Int := if Pt.iv i t = true then (7 * t - 12 * i, 0) else (0, 1)
end Ky
set_option maxHeartbeats 800000 in
theorem wellFormed_is (i t : Int) (v : Bool) (hv : Pt.iv i t = v) (w : World) :
    Calls Tryz.prog 136 #[.agg #[.int .i64 i, .int .i64 t]] w fun e w' => e = .returned (.bool v) ∧ Below w.heap.size w w' := by
  obtain ⟨x, hx⟩ : ∃ x, nr i (-70) 70 = x := ⟨_, rfl⟩
  obtain ⟨y, hy⟩ : ∃ y, nr t (-120) 120 = y := ⟨_, rfl⟩
  have e : v = (decide (i = x) && decide (t = y)) := by
    rw [← hv, Bool.eq_iff_iff, Pt.iv_iff, ← hx, ← hy]
    simp only [Bool.and_eq_true, decide_eq_true_eq]
    rw [eq_comm (a := i), eq_comm (a := t), nr_eq (by omega), nr_eq (by omega)]
    omega
  have HX := Lib.hid hx
  have HY := Lib.hid hy
  clear hx hy hv
  by_cases h1 : i = x <;> by_cases h2 : t = y
  all_goals
    simp only [h1, h2, decide_true, decide_false, Bool.and_true, Bool.and_false] at e
    subst e
    try subst h1
    try subst h2
    go_enter Tryz.func136, Tryz.ntmps136
    go_wp2_with fail
    go_quiet ((go_at_call 122; first | (with_reducible exact quiet_left (nearest_is _ _ _ _ HX.out _)) | (with_reducible exact quiet_left (nearest_is _ _ _ _ HY.out _))))
    go_wp2_with fail
    go_ret
    exact ⟨rfl, below_drewN (by go_grown) _⟩

set_option maxHeartbeats 400000 in
theorem back_is (i t I T E : Int) (h : Pt.backR i t = (I, T, E)) (w : World) :
    Calls Tryz.prog 121 #[.agg #[.int .i64 i, .int .i64 t]] w fun e w' => e = .returned (.tuple #[.agg #[.int .i64 I, .int .i64 T], .int .i64 E]) ∧ Below w.heap.size w w' := by
  unfold Pt.backR at h
  by_cases hv : Pt.iv i t = true
  · rw [if_pos hv] at h
    simp only [Prod.mk.injEq] at h
    obtain ⟨rfl, rfl, rfl⟩ := h
    obtain ⟨l1, l2, l3, l4⟩ := Pt.iv_iff.1 hv
    have HV := Lib.hid hv
    clear hv
    go_enter Tryz.func121, Tryz.ntmps121
    go_wp2_with fail
    refine (wellFormed_is _ _ _ HV.out _).mono ?_; rintro e w1 ⟨rfl, hb1⟩
    have A := ((At2.new w i t _).alloc _).below hb1
    have V := (Var2.new (w.alloc _) 0 0 _).below hb1
    have G : Below w.heap.size w w1 := (((Below.refl _ _).alloc (Nat.le_refl _) _).alloc (by simp) _).trans (hb1.mono (by simp; omega))
    have S1 : w.heap.size + 2 ≤ w1.heap.size := by have := hb1.size; simp at this; omega
    simp only [World.size_alloc] at V
    clear hb1
    obtain ⟨a0, a1, v0, v1⟩ := And.intro A.c0 (And.intro A.c1 (And.intro V.at2.c0 V.at2.c1))
    have f0 := V.f0; have f1 := V.f1
    go_wp2_with fail
    refine bodyPost_ret (v := .tuple #[.agg #[.int .i64 (-i), .int .i64 (-t)], .int .i64 0]) (by simp [results, Tryz.results121, go_sem, v0, v1]) rfl ⟨rfl, ?_⟩
    exact (G.setCell (by simp) _).setCell (by simp) _
  · have hv' : Pt.iv i t = false := by simpa using hv
    rw [if_neg hv] at h
    simp only [Prod.mk.injEq] at h
    obtain ⟨rfl, rfl, rfl⟩ := h
    have HV := Lib.hid hv'
    clear hv hv'
    go_enter Tryz.func121, Tryz.ntmps121
    go_wp2_with fail
    refine (wellFormed_is _ _ _ HV.out _).mono ?_; rintro e w1 ⟨rfl, hb1⟩
    have V := (Var2.new (w.alloc _) 0 0 _).below hb1
    have G : Below w.heap.size w w1 := (((Below.refl _ _).alloc (Nat.le_refl _) _).alloc (by simp) _).trans (hb1.mono (by simp; omega))
    have S1 : w.heap.size + 2 ≤ w1.heap.size := by have := hb1.size; simp at this; omega
    simp only [World.size_alloc] at V
    clear hb1
    obtain ⟨v0, v1⟩ := And.intro V.at2.c0 V.at2.c1
    have f0 := V.f0; have f1 := V.f1
    go_wp2_with fail
    refine bodyPost_ret (v := .tuple #[.agg #[.int .i64 0, .int .i64 0], .int .i64 1]) (by simp [results, Tryz.results121, go_sem, v0, v1]) rfl ⟨rfl, ?_⟩
    exact (G.setCell (by simp) _).setCell (by simp) _

set_option maxHeartbeats 800000 in
theorem fifths_is (i t V E : Int) (h : Ky.fifR i t = (V, E)) (w : World) :
    Calls Tryz.prog 110 #[.agg #[.int .i64 i, .int .i64 t]] w fun e w' => e = .returned (.tuple #[.int .i64 V, .int .i64 E]) ∧ Below w.heap.size w w' := by
  unfold Ky.fifR at h
  obtain ⟨⟨I, T, F⟩, hB⟩ : ∃ r, Pt.backR i t = r := ⟨_, rfl⟩
  have HB := Lib.hid hB
  unfold Pt.backR at hB
  by_cases hv : Pt.iv i t = true
  · rw [if_pos hv] at h hB
    simp only [Prod.mk.injEq] at h hB
    obtain ⟨rfl, rfl⟩ := h
    obtain ⟨-, -, rfl⟩ := hB
    obtain ⟨l1, l2, l3, l4⟩ := Pt.iv_iff.1 hv
    clear hv
    go_enter Tryz.func110, Tryz.ntmps110
    go_wp2_with fail
    refine (back_is _ _ _ _ _ HB.out _).mono ?_; rintro e w1 ⟨rfl, hb1⟩
    have A := (At2.new w i t _).below hb1
    have G : Below w.heap.size w w1 := ((Below.refl _ _).alloc (Nat.le_refl _) _).trans (hb1.mono (by simp))
    clear hb1
    have a0 := A.c0; have a1 := A.c1; have al := A.lt
    go_wp2_with fail
    go_ret2
    exact ⟨rfl, G.alloc (by have := G.size; omega) _⟩
  · rw [if_neg hv] at h hB
    simp only [Prod.mk.injEq] at h hB
    obtain ⟨rfl, rfl⟩ := h
    obtain ⟨-, -, rfl⟩ := hB
    clear hv
    go_enter Tryz.func110, Tryz.ntmps110
    go_wp2_with fail
    refine (back_is _ _ _ _ _ HB.out _).mono ?_; rintro e w1 ⟨rfl, hb1⟩
    have G : Below w.heap.size w w1 := ((Below.refl _ _).alloc (Nat.le_refl _) _).trans (hb1.mono (by simp))
    clear hb1
    go_wp2_with fail
    go_ret2
    exact ⟨rfl, G.alloc (by have := G.size; omega) _⟩

set_option maxHeartbeats 400000 in
theorem kin_is (n a b : Int) (v : Bool) (hv : (decide (a ≤ n) && decide (n ≤ b)) = v) (w : World) :
    Calls Tryz.prog 137 #[.int .i64 n, .int .i64 a, .int .i64 b] w fun e w' => e = .returned (.bool v) ∧ w = w' := by
  subst hv
  by_cases h1 : a ≤ n
  · by_cases h2 : n ≤ b
    · have e : (decide (a ≤ n) && decide (n ≤ b)) = true := by simp [h1, h2]
      rw [e]; clear e
      go_enter Tryz.func137, Tryz.ntmps137
      go_wp2
      go_ret
      exact ⟨rfl, rfl⟩
    · have e : (decide (a ≤ n) && decide (n ≤ b)) = false := by simp; omega
      rw [e]; clear e
      have h3 : decide (n ≤ b) = false := by simpa using h2
      go_enter Tryz.func137, Tryz.ntmps137
      go_wp2
      go_ret
      exact ⟨rfl, rfl⟩
  · have e : (decide (a ≤ n) && decide (n ≤ b)) = false := by simp; omega
    rw [e]; clear e
    go_enter Tryz.func137, Tryz.ntmps137
    go_wp2
    go_ret
    exact ⟨rfl, rfl⟩

set_option maxHeartbeats 800000 in
theorem kinterval_is (i t : Int) (v : Bool) (hv : Pt.iv i t = v) (w : World) :
    Calls Tryz.prog 124 #[.agg #[.int .i64 i, .int .i64 t]] w fun e w' => e = .returned (.bool v) ∧ Below w.heap.size w w' := by
  obtain ⟨x, hx⟩ : ∃ x, (decide (-70 ≤ i) && decide (i ≤ 70)) = x := ⟨_, rfl⟩
  obtain ⟨y, hy⟩ : ∃ y, (decide (-120 ≤ t) && decide (t ≤ 120)) = y := ⟨_, rfl⟩
  have e : v = (x && y) := by
    rw [← hv, ← hx, ← hy]; unfold Pt.iv; simp only [Bool.and_assoc]
  subst e
  have HX := Lib.hid hx
  have HY := Lib.hid hy
  clear hx hy hv
  cases x
  all_goals
    go_enter Tryz.func124, Tryz.ntmps124
    go_wp2_with fail
    refine (kin_is _ _ _ _ HX.out _).mono ?_; rintro e w' ⟨rfl, rfl⟩
    go_wp2_with fail
    first
      | (go_ret; exact ⟨rfl, by go_grown⟩)
      | (refine (kin_is _ _ _ _ HY.out _).mono ?_; rintro e w' ⟨rfl, rfl⟩; go_wp2_with fail; go_ret; exact ⟨rfl, by go_grown⟩)

set_option maxHeartbeats 400000 in
theorem kfifths_is (i t V E : Int) (h : Ky.fifR i t = (V, E)) (w : World) :
    Calls Tryz.prog 113 #[.agg #[.int .i64 i, .int .i64 t]] w fun e w' => e = .returned (.tuple #[.int .i64 V, .int .i64 E]) ∧ Below w.heap.size w w' := by
  unfold Ky.fifR at h
  by_cases hv : Pt.iv i t = true
  · rw [if_pos hv] at h
    simp only [Prod.mk.injEq] at h
    obtain ⟨rfl, rfl⟩ := h
    obtain ⟨l1, l2, l3, l4⟩ := Pt.iv_iff.1 hv
    have HV := Lib.hid hv
    clear hv
    go_enter Tryz.func113, Tryz.ntmps113
    go_wp2_with fail
    refine (kinterval_is _ _ _ HV.out _).mono ?_; rintro e w1 ⟨rfl, hb1⟩
    have A := (At2.new w i t _).below hb1
    have G : Below w.heap.size w w1 := ((Below.refl _ _).alloc (Nat.le_refl _) _).trans (hb1.mono (by simp))
    clear hb1
    obtain ⟨a0, a1⟩ := And.intro A.c0 A.c1
    go_wp2
    go_ret2
    exact ⟨rfl, G⟩
  · have hv' : Pt.iv i t = false := by simpa using hv
    rw [if_neg hv] at h
    simp only [Prod.mk.injEq] at h
    obtain ⟨rfl, rfl⟩ := h
    have HV := Lib.hid hv'
    clear hv hv'
    go_enter Tryz.func113, Tryz.ntmps113
    go_wp2_with fail
    refine (kinterval_is _ _ _ HV.out _).mono ?_; rintro e w1 ⟨rfl, hb1⟩
    have G : Below w.heap.size w w1 := ((Below.refl _ _).alloc (Nat.le_refl _) _).trans (hb1.mono (by simp))
    clear hb1
    go_wp2
    go_ret2
    exact ⟨rfl, G⟩

set_option maxHeartbeats 800000 in
theorem pnumberW_is (s a o N : Int) (hN : 12 * o + No.nat7 s + a = N) (hn : Sc.pv s a o) (w : World) (hG : Glob w) :
    Calls Tryz.prog 123 #[.agg #[.int .i64 s, .int .i64 a, .int .i64 o]] w fun e w' => e = .returned (.int .i64 N) ∧ BelowD w.heap.size w w' := by
  obtain ⟨⟨h0, h1⟩, ⟨h2, h3⟩, h4, h5⟩ := hn
  have n1 : 0 ≤ No.nat7 s ∧ No.nat7 s ≤ 11 := by unfold No.nat7; split <;> omega
  have hn := (hG.alloc (.cells #[.int .i64 s, .int .i64 a, .int .i64 o] 47)).nums s h0 h1
  have E : Hid (12 * o + No.nat7 s + a = N) := Lib.hid hN
  rw [← E.out]
  clear hN
  generalize No.nat7 s = n at *
  obtain ⟨n1, n2⟩ := n1
  have A := At3.new w s a o 47
  have xa0 := fun x : ExtD (w.alloc (.cells #[.int .i64 s, .int .i64 a, .int .i64 o] 47)) => x.cell A.c0
  have xa1 := fun x : ExtD (w.alloc (.cells #[.int .i64 s, .int .i64 a, .int .i64 o] 47)) => x.cell A.c1
  have xa2 := fun x : ExtD (w.alloc (.cells #[.int .i64 s, .int .i64 a, .int .i64 o] 47)) => x.cell A.c2
  have xn := fun x : ExtD (w.alloc (.cells #[.int .i64 s, .int .i64 a, .int .i64 o] 47)) => x.cell hn
  have hne := ExtD.there (w.alloc (.cells #[.int .i64 s, .int .i64 a, .int .i64 o] 47))
  have hlt : s.toNat < 7 := by omega
  clear hn E A hG
  go_enter Tryz.func123, Tryz.ntmps123
  go_wp2_with fail
  refine ExtD.region (by kernel_rfl) (by kernel_rfl) ?_
  repeat (go_big_quiet_step (fail))
  refine wpQuiet_nil ?_
  rintro _ ⟨xw, rfl⟩
  have hb := xw.h
  generalize xw.w = w3 at *
  clear xw
  go_wp2_with fail
  go_ret
  exact ⟨rfl, ((BelowD.refl _ _).alloc (Nat.le_refl _) _).trans (hb.mono (by simp))⟩

set_option maxHeartbeats 400000 in
theorem pnumW_is (s a o N : Int) (hN : 12 * o + No.nat7 s + a = N) (hn : Sc.pv s a o) (w : World) (hG : Glob w) :
    Calls Tryz.prog 112 #[.agg #[.int .i64 s, .int .i64 a, .int .i64 o]] w fun e w' => e = .returned (.tuple #[.int .i64 N, .int .i64 0]) ∧ BelowD w.heap.size w w' := by
  have HV : Hid (decide ((0 ≤ s ∧ s ≤ 6) ∧ (-4 ≤ a ∧ a ≤ 4) ∧ (-8 ≤ o ∧ o ≤ 20)) = true) := Lib.hid (decide_eq_true hn)
  have HN := Lib.hid hN
  have HI := Lib.hid hn
  clear hN hn
  go_enter Tryz.func112, Tryz.ntmps112
  go_wp2_with fail
  refine (pvalid_is _ _ _ _ HV.out _).mono ?_; rintro e w1 ⟨rfl, hb1⟩
  have A := (At3.new w s a o _).below hb1.b
  have G1 := (hG.alloc _).below hb1.b
  have G : BelowD w.heap.size w w1 := ((BelowD.refl _ _).alloc (Nat.le_refl _) _).trans (hb1.mono (by simp))
  have S1 : w.heap.size + 1 ≤ w1.heap.size := by have := hb1.size; simp at this; omega
  clear hb1 hG
  obtain ⟨a0, a1, a2⟩ := And.intro A.c0 (And.intro A.c1 A.c2)
  go_wp2_with fail
  refine (pnumberW_is _ _ _ _ HN.out HI.out _ G1).mono ?_; rintro e w2 ⟨rfl, hb2⟩
  go_wp2_with fail
  go_ret2
  exact ⟨rfl, G.trans (hb2.mono (by omega))⟩

set_option maxHeartbeats 800000 in
theorem rsoundW_is (s a o t : Int) (h : 12 * o + No.nat7 s + a = t) (hn : Sc.pv s a o) (w : World) :
    Calls Tryz.prog 26 #[.agg #[.int .i64 s, .int .i64 a, .int .i64 o]] w fun e w' => e = .returned (.int .i64 t) ∧ Below w.heap.size w w' := by
  have G0 := (Below.refl w.heap.size w).alloc (Nat.le_refl _) (.cells #[.int .i64 s, .int .i64 a, .int .i64 o] 47)
  have A0 : At3 (w.alloc (.cells #[.int .i64 s, .int .i64 a, .int .i64 o] 47)) w.heap.size s a o := At3.new _ _ _ _ _
  obtain ⟨u, hu⟩ : ∃ u, No.nat7 s = u := ⟨_, rfl⟩
  rw [hu] at h
  obtain ⟨⟨s0, s1⟩, ⟨a0, a1⟩, o0, o1⟩ := hn
  have hu0 : 0 ≤ u ∧ u ≤ 12 := by rw [← hu]; unfold No.nat7; split <;> omega
  obtain ⟨u0, u1⟩ := hu0
  have HU := Lib.hid hu
  have HT := Lib.hid h
  clear h hu
  go_enter Tryz.func26, Tryz.ntmps26
  go_wp2_with fail
  generalize w.alloc (.cells #[.int .i64 s, .int .i64 a, .int .i64 o] 47) = w2 at *
  have x0 := fun x : Ext w2 => x.cell A0.c0
  have x1 := fun x : Ext w2 => x.cell A0.c1
  have x2 := fun x : Ext w2 => x.cell A0.c2
  have hne := Ext.there w2
  refine Ext.region (by kernel_rfl) (by kernel_rfl) ?_
  repeat (go_big_quiet_step ((go_at_call 60; exact Ext.call _ (rnatural_is s u HU.out s0 s1 _))))
  refine wpQuiet_nil ?_
  rintro _ ⟨xw, rfl⟩
  have G1 := G0.trans (xw.h.mono G0.size)
  clear x0 x1 x2 hne
  generalize xw.w = w3 at *
  clear xw
  go_wp2_with fail
  go_ret
  exact ⟨by rw [← HT.out]; rfl, G1⟩

/-- score's own number. -/
theorem snumber_is (s a o N : Int) (hN : Sc.num s a o = N) (hn : Sc.pv s a o) (w : World) (hG : Glob w) :
    Calls Tryz.prog 88 #[.agg #[.int .i64 s, .int .i64 a, .int .i64 o]] w fun e w' => e = .returned (.int .i64 N) ∧ Below w.heap.size w w' := by
  have HN := Lib.hid hN
  have HI := Lib.hid hn
  have G0 := (Below.refl w.heap.size w).alloc (Nat.le_refl _) (.cells #[.int .i64 s, .int .i64 a, .int .i64 o] 47)
  have hG0 := hG.alloc (.cells #[.int .i64 s, .int .i64 a, .int .i64 o] 47)
  clear hN hn hG
  go_enter Tryz.func88, Tryz.ntmps88
  go_wp2_with fail
  refine (pnumW_is _ _ _ _ HN.out HI.out _ hG0).mono ?_; rintro e w1 ⟨rfl, hb1⟩
  have G1 := G0.trans (hb1.b.mono G0.size)
  clear hb1
  go_wp2_with fail
  go_ret
  exact ⟨rfl, G1⟩
end Go.Proofs.YtbbjifhelbeniaaGreatDoor

/- The walks of score's isShift, isDoubling, isRange, inRange, isPart, and of the reference's in, Shift, Part1, Range. -/
namespace Go.Proofs.YtbbjifhelbeniaaGreatDoor
open Go.RowKit

theorem ex_bool (P : Prop) : ∃ g : Bool, g = true ↔ P := by
  by_cases h : P
  · exact ⟨true, by simp [h]⟩
  · exact ⟨false, by simp [h]⟩
theorem dec_of {P : Prop} [Decidable P] {f : Bool} (h : f = true ↔ P) : decide P = f := by
  rw [Bool.eq_iff_iff, decide_eq_true_eq]
  exact h.symm
theorem lbetw (n lo hi : Int) (f : Bool) (h : f = true ↔ (lo ≤ n ∧ n ≤ hi)) (w : World) :
    Calls Tryz.prog 63 #[.int .i64 n, .int .i64 lo, .int .i64 hi] w fun e w' => e = .returned (.bool f) ∧ Below w.heap.size w w' := tbetween_is n lo hi f (dec_of h) w
theorem lid (n : Int) (f : Bool) (h : f = true ↔ (1 ≤ n ∧ n ≤ 1000000)) (w : World) :
    Calls Tryz.prog 34 #[.int .i64 n] w fun e w' => e = .returned (.bool f) ∧ Below w.heap.size w w' := tisid_is n f (dec_of h) w
theorem lpv (s a o : Int) (f : Bool) (h : f = true ↔ Sc.pv s a o) (w : World) :
    Calls Tryz.prog 111 #[.agg #[.int .i64 s, .int .i64 a, .int .i64 o]] w fun e w' => e = .returned (.bool f) ∧ Below w.heap.size w w' := pvalid_b s a o f (dec_of (P := (0 ≤ s ∧ s ≤ 6) ∧ (-4 ≤ a ∧ a ≤ 4) ∧ (-8 ≤ o ∧ o ≤ 20)) h) w
theorem rpv (s a o : Int) (f : Bool) (h : f = true ↔ Sc.pv s a o) (w : World) :
    Calls Tryz.prog 92 #[.agg #[.int .i64 s, .int .i64 a, .int .i64 o]] w fun e w' => e = .returned (.bool f) ∧ Below w.heap.size w w' := rpvalid_is s a o f (dec_of (P := (0 ≤ s ∧ s ≤ 6) ∧ (-4 ≤ a ∧ a ≤ 4) ∧ (-8 ≤ o ∧ o ≤ 20)) h) w
set_option maxHeartbeats 400000 in
theorem sin_is (n lo hi : Int) (f : Bool) (h : f = true ↔ (lo ≤ n ∧ n ≤ hi)) (w : World) :
    Calls Tryz.prog 40 #[.int .i64 n, .int .i64 lo, .int .i64 hi] w fun e w' => e = .returned (.bool f) ∧ Below w.heap.size w w' := by
  by_cases h1 : lo ≤ n
  · by_cases h2 : n ≤ hi
    · obtain rfl : f = true := h.2 ⟨h1, h2⟩
      clear h
      go_enter Tryz.func40, Tryz.ntmps40
      go_wp2_with fail
      go_ret
      exact ⟨rfl, Below.refl _ _⟩
    · obtain rfl : f = false := by cases f with
        | false => rfl
        | true => exact absurd (h.1 rfl).2 h2
      clear h
      go_enter Tryz.func40, Tryz.ntmps40
      go_wp2_with fail
      go_ret
      exact ⟨rfl, Below.refl _ _⟩
  · obtain rfl : f = false := by cases f with
      | false => rfl
      | true => exact absurd (h.1 rfl).1 h1
    clear h
    go_enter Tryz.func40, Tryz.ntmps40
    go_wp2_with fail
    go_ret
    exact ⟨rfl, Below.refl _ _⟩
theorem sind_is (n lo hi : Int) (f : Bool) (h : decide (lo ≤ n ∧ n ≤ hi) = f) (w : World) :
    Calls Tryz.prog 40 #[.int .i64 n, .int .i64 lo, .int .i64 hi] w fun e w' => e = .returned (.bool f) ∧ Below w.heap.size w w' := sin_is n lo hi f (by rw [← h, decide_eq_true_eq]) w
set_option maxHeartbeats 800000 in
theorem sshift_is (i t : Int) (f : Bool) (h : f = true ↔ Sc.okSh i t) (w : World) :
    Calls Tryz.prog 86 #[.agg #[.int .i64 i, .int .i64 t]] w fun e w' => e = .returned (.bool f) ∧ Below w.heap.size w w' := by
  obtain ⟨⟨V, E⟩, hV⟩ : ∃ r, Ky.fifR i t = r := ⟨_, rfl⟩
  have HV := Lib.hid hV
  unfold Ky.fifR at hV
  by_cases hv : Pt.iv i t = true
  case neg =>
    rw [if_neg hv] at hV
    cases hV
    obtain rfl : f = false := by cases f with
      | false => rfl
      | true => exact absurd (Pt.iv_iff.2 (by have := h.1 rfl; unfold Sc.okSh at this; omega)) hv
    clear h hv
    go_enter Tryz.func86, Tryz.ntmps86
    go_wp2_with fail
    have B := Below.refl w.heap.size w
    refine (fifths_is i t 0 1 HV.out _).mono ?_; rintro e w1 ⟨rfl, hb⟩
    have A := (At2.new _ i t _).below hb
    replace B := (B.alloc (by have := B.size; simp <;> omega) _).trans (hb.mono (by have := B.size; simp <;> omega))
    clear hb
    have lA := A.lt; have cA0 := A.c0; have cA1 := A.c1
    go_wp2_with fail
    go_ret
    exact ⟨rfl, B⟩
  rw [if_pos hv] at hV
  cases hV
  unfold Sc.okSh at h
  obtain ⟨v, hv2⟩ : ∃ v, 7 * t - 12 * i = v := ⟨_, rfl⟩
  rw [hv2] at HV h
  clear hv hv2
  by_cases q1 : -21 ≤ i ∧ i ≤ 21
  case neg =>
    obtain rfl : f = false := by cases f with
      | false => rfl
      | true => exact absurd (h.1 rfl).1 q1
    have H1 := Lib.hid (decide_eq_false q1)
    clear h q1
    go_enter Tryz.func86, Tryz.ntmps86
    go_wp2_with fail
    have B := Below.refl w.heap.size w
    refine (fifths_is i t v 0 HV.out _).mono ?_; rintro e w1 ⟨rfl, hb⟩
    have A := (At2.new _ i t _).below hb
    replace B := (B.alloc (by have := B.size; simp <;> omega) _).trans (hb.mono (by have := B.size; simp <;> omega))
    clear hb
    have lA := A.lt; have cA0 := A.c0; have cA1 := A.c1
    go_wp2_with fail
    refine (tbetween_is i (-21) 21 false H1.out _).mono ?_; rintro e w2 ⟨rfl, hb⟩
    replace A := A.below hb
    replace B := B.trans (hb.mono (by have := B.size; simp <;> omega))
    clear hb lA cA0 cA1
    have lA := A.lt; have cA0 := A.c0; have cA1 := A.c1
    go_wp2_with fail
    go_ret
    exact ⟨rfl, B⟩
  have H1 := Lib.hid (decide_eq_true q1)
  by_cases q2 : -36 ≤ t ∧ t ≤ 36
  case neg =>
    obtain rfl : f = false := by cases f with
      | false => rfl
      | true => exact absurd (h.1 rfl).2.1 q2
    have H2 := Lib.hid (decide_eq_false q2)
    clear h q1 q2
    go_enter Tryz.func86, Tryz.ntmps86
    go_wp2_with fail
    have B := Below.refl w.heap.size w
    refine (fifths_is i t v 0 HV.out _).mono ?_; rintro e w1 ⟨rfl, hb⟩
    have A := (At2.new _ i t _).below hb
    replace B := (B.alloc (by have := B.size; simp <;> omega) _).trans (hb.mono (by have := B.size; simp <;> omega))
    clear hb
    have lA := A.lt; have cA0 := A.c0; have cA1 := A.c1
    go_wp2_with fail
    refine (tbetween_is i (-21) 21 true H1.out _).mono ?_; rintro e w2 ⟨rfl, hb⟩
    replace A := A.below hb
    replace B := B.trans (hb.mono (by have := B.size; simp <;> omega))
    clear hb lA cA0 cA1
    have lA := A.lt; have cA0 := A.c0; have cA1 := A.c1
    go_wp2_with fail
    refine (tbetween_is t (-36) 36 false H2.out _).mono ?_; rintro e w3 ⟨rfl, hb⟩
    replace A := A.below hb
    replace B := B.trans (hb.mono (by have := B.size; simp <;> omega))
    clear hb lA cA0 cA1
    have lA := A.lt; have cA0 := A.c0; have cA1 := A.c1
    go_wp2_with fail
    go_ret
    exact ⟨rfl, B⟩
  have H2 := Lib.hid (decide_eq_true q2)
  by_cases q3 : -12 ≤ v ∧ v ≤ 12
  case neg =>
    obtain rfl : f = false := by cases f with
      | false => rfl
      | true => exact absurd (h.1 rfl).2.2 q3
    have H3 := Lib.hid (decide_eq_false q3)
    clear h q1 q2 q3
    go_enter Tryz.func86, Tryz.ntmps86
    go_wp2_with fail
    have B := Below.refl w.heap.size w
    refine (fifths_is i t v 0 HV.out _).mono ?_; rintro e w1 ⟨rfl, hb⟩
    have A := (At2.new _ i t _).below hb
    replace B := (B.alloc (by have := B.size; simp <;> omega) _).trans (hb.mono (by have := B.size; simp <;> omega))
    clear hb
    have lA := A.lt; have cA0 := A.c0; have cA1 := A.c1
    go_wp2_with fail
    refine (tbetween_is i (-21) 21 true H1.out _).mono ?_; rintro e w2 ⟨rfl, hb⟩
    replace A := A.below hb
    replace B := B.trans (hb.mono (by have := B.size; simp <;> omega))
    clear hb lA cA0 cA1
    have lA := A.lt; have cA0 := A.c0; have cA1 := A.c1
    go_wp2_with fail
    refine (tbetween_is t (-36) 36 true H2.out _).mono ?_; rintro e w3 ⟨rfl, hb⟩
    replace A := A.below hb
    replace B := B.trans (hb.mono (by have := B.size; simp <;> omega))
    clear hb lA cA0 cA1
    have lA := A.lt; have cA0 := A.c0; have cA1 := A.c1
    go_wp2_with fail
    refine (tbetween_is v (-12) 12 false H3.out _).mono ?_; rintro e w4 ⟨rfl, hb⟩
    replace A := A.below hb
    replace B := B.trans (hb.mono (by have := B.size; simp <;> omega))
    clear hb lA cA0 cA1
    have lA := A.lt; have cA0 := A.c0; have cA1 := A.c1
    go_wp2_with fail
    go_ret
    exact ⟨rfl, B⟩
  have H3 := Lib.hid (decide_eq_true q3)
  obtain rfl : f = true := h.2 ⟨q1, q2, q3⟩
  clear h q1 q2 q3
  go_enter Tryz.func86, Tryz.ntmps86
  go_wp2_with fail
  have B := Below.refl w.heap.size w
  refine (fifths_is i t v 0 HV.out _).mono ?_; rintro e w1 ⟨rfl, hb⟩
  have A := (At2.new _ i t _).below hb
  replace B := (B.alloc (by have := B.size; simp <;> omega) _).trans (hb.mono (by have := B.size; simp <;> omega))
  clear hb
  have lA := A.lt; have cA0 := A.c0; have cA1 := A.c1
  go_wp2_with fail
  refine (tbetween_is i (-21) 21 true H1.out _).mono ?_; rintro e w2 ⟨rfl, hb⟩
  replace A := A.below hb
  replace B := B.trans (hb.mono (by have := B.size; simp <;> omega))
  clear hb lA cA0 cA1
  have lA := A.lt; have cA0 := A.c0; have cA1 := A.c1
  go_wp2_with fail
  refine (tbetween_is t (-36) 36 true H2.out _).mono ?_; rintro e w3 ⟨rfl, hb⟩
  replace A := A.below hb
  replace B := B.trans (hb.mono (by have := B.size; simp <;> omega))
  clear hb lA cA0 cA1
  have lA := A.lt; have cA0 := A.c0; have cA1 := A.c1
  go_wp2_with fail
  refine (tbetween_is v (-12) 12 true H3.out _).mono ?_; rintro e w4 ⟨rfl, hb⟩
  replace A := A.below hb
  replace B := B.trans (hb.mono (by have := B.size; simp <;> omega))
  clear hb lA cA0 cA1
  have lA := A.lt; have cA0 := A.c0; have cA1 := A.c1
  go_wp2_with fail
  go_ret
  exact ⟨rfl, B⟩
set_option maxHeartbeats 800000 in
theorem rshift_is (i t : Int) (f : Bool) (h : f = true ↔ Sc.okSh i t) (w : World) :
    Calls Tryz.prog 91 #[.agg #[.int .i64 i, .int .i64 t]] w fun e w' => e = .returned (.bool f) ∧ Below w.heap.size w w' := by
  obtain ⟨⟨V, E⟩, hV⟩ : ∃ r, Ky.fifR i t = r := ⟨_, rfl⟩
  have HV := Lib.hid hV
  unfold Ky.fifR at hV
  by_cases hv : Pt.iv i t = true
  case neg =>
    rw [if_neg hv] at hV
    cases hV
    obtain rfl : f = false := by cases f with
      | false => rfl
      | true => exact absurd (Pt.iv_iff.2 (by have := h.1 rfl; unfold Sc.okSh at this; omega)) hv
    clear h hv
    go_enter Tryz.func91, Tryz.ntmps91
    go_wp2_with fail
    have B := Below.refl w.heap.size w
    refine (kfifths_is i t 0 1 HV.out _).mono ?_; rintro e w1 ⟨rfl, hb⟩
    have A := (At2.new _ i t _).below hb
    replace B := (B.alloc (by have := B.size; simp <;> omega) _).trans (hb.mono (by have := B.size; simp <;> omega))
    clear hb
    have lA := A.lt; have cA0 := A.c0; have cA1 := A.c1
    go_wp2_with fail
    go_ret
    exact ⟨rfl, B⟩
  rw [if_pos hv] at hV
  cases hV
  unfold Sc.okSh at h
  obtain ⟨v, hv2⟩ : ∃ v, 7 * t - 12 * i = v := ⟨_, rfl⟩
  rw [hv2] at HV h
  clear hv hv2
  by_cases q1 : -21 ≤ i ∧ i ≤ 21
  case neg =>
    obtain rfl : f = false := by cases f with
      | false => rfl
      | true => exact absurd (h.1 rfl).1 q1
    have H1 := Lib.hid (decide_eq_false q1)
    clear h q1
    go_enter Tryz.func91, Tryz.ntmps91
    go_wp2_with fail
    have B := Below.refl w.heap.size w
    refine (kfifths_is i t v 0 HV.out _).mono ?_; rintro e w1 ⟨rfl, hb⟩
    have A := (At2.new _ i t _).below hb
    replace B := (B.alloc (by have := B.size; simp <;> omega) _).trans (hb.mono (by have := B.size; simp <;> omega))
    clear hb
    have lA := A.lt; have cA0 := A.c0; have cA1 := A.c1
    go_wp2_with fail
    refine (sind_is i (-21) 21 false H1.out _).mono ?_; rintro e w2 ⟨rfl, hb⟩
    replace A := A.below hb
    replace B := B.trans (hb.mono (by have := B.size; simp <;> omega))
    clear hb lA cA0 cA1
    have lA := A.lt; have cA0 := A.c0; have cA1 := A.c1
    go_wp2_with fail
    go_ret
    exact ⟨rfl, B⟩
  have H1 := Lib.hid (decide_eq_true q1)
  by_cases q2 : -36 ≤ t ∧ t ≤ 36
  case neg =>
    obtain rfl : f = false := by cases f with
      | false => rfl
      | true => exact absurd (h.1 rfl).2.1 q2
    have H2 := Lib.hid (decide_eq_false q2)
    clear h q1 q2
    go_enter Tryz.func91, Tryz.ntmps91
    go_wp2_with fail
    have B := Below.refl w.heap.size w
    refine (kfifths_is i t v 0 HV.out _).mono ?_; rintro e w1 ⟨rfl, hb⟩
    have A := (At2.new _ i t _).below hb
    replace B := (B.alloc (by have := B.size; simp <;> omega) _).trans (hb.mono (by have := B.size; simp <;> omega))
    clear hb
    have lA := A.lt; have cA0 := A.c0; have cA1 := A.c1
    go_wp2_with fail
    refine (sind_is i (-21) 21 true H1.out _).mono ?_; rintro e w2 ⟨rfl, hb⟩
    replace A := A.below hb
    replace B := B.trans (hb.mono (by have := B.size; simp <;> omega))
    clear hb lA cA0 cA1
    have lA := A.lt; have cA0 := A.c0; have cA1 := A.c1
    go_wp2_with fail
    refine (sind_is t (-36) 36 false H2.out _).mono ?_; rintro e w3 ⟨rfl, hb⟩
    replace A := A.below hb
    replace B := B.trans (hb.mono (by have := B.size; simp <;> omega))
    clear hb lA cA0 cA1
    have lA := A.lt; have cA0 := A.c0; have cA1 := A.c1
    go_wp2_with fail
    go_ret
    exact ⟨rfl, B⟩
  have H2 := Lib.hid (decide_eq_true q2)
  by_cases q3 : -12 ≤ v ∧ v ≤ 12
  case neg =>
    obtain rfl : f = false := by cases f with
      | false => rfl
      | true => exact absurd (h.1 rfl).2.2 q3
    have H3 := Lib.hid (decide_eq_false q3)
    clear h q1 q2 q3
    go_enter Tryz.func91, Tryz.ntmps91
    go_wp2_with fail
    have B := Below.refl w.heap.size w
    refine (kfifths_is i t v 0 HV.out _).mono ?_; rintro e w1 ⟨rfl, hb⟩
    have A := (At2.new _ i t _).below hb
    replace B := (B.alloc (by have := B.size; simp <;> omega) _).trans (hb.mono (by have := B.size; simp <;> omega))
    clear hb
    have lA := A.lt; have cA0 := A.c0; have cA1 := A.c1
    go_wp2_with fail
    refine (sind_is i (-21) 21 true H1.out _).mono ?_; rintro e w2 ⟨rfl, hb⟩
    replace A := A.below hb
    replace B := B.trans (hb.mono (by have := B.size; simp <;> omega))
    clear hb lA cA0 cA1
    have lA := A.lt; have cA0 := A.c0; have cA1 := A.c1
    go_wp2_with fail
    refine (sind_is t (-36) 36 true H2.out _).mono ?_; rintro e w3 ⟨rfl, hb⟩
    replace A := A.below hb
    replace B := B.trans (hb.mono (by have := B.size; simp <;> omega))
    clear hb lA cA0 cA1
    have lA := A.lt; have cA0 := A.c0; have cA1 := A.c1
    go_wp2_with fail
    refine (sind_is v (-12) 12 false H3.out _).mono ?_; rintro e w4 ⟨rfl, hb⟩
    replace A := A.below hb
    replace B := B.trans (hb.mono (by have := B.size; simp <;> omega))
    clear hb lA cA0 cA1
    have lA := A.lt; have cA0 := A.c0; have cA1 := A.c1
    go_wp2_with fail
    go_ret
    exact ⟨rfl, B⟩
  have H3 := Lib.hid (decide_eq_true q3)
  obtain rfl : f = true := h.2 ⟨q1, q2, q3⟩
  clear h q1 q2 q3
  go_enter Tryz.func91, Tryz.ntmps91
  go_wp2_with fail
  have B := Below.refl w.heap.size w
  refine (kfifths_is i t v 0 HV.out _).mono ?_; rintro e w1 ⟨rfl, hb⟩
  have A := (At2.new _ i t _).below hb
  replace B := (B.alloc (by have := B.size; simp <;> omega) _).trans (hb.mono (by have := B.size; simp <;> omega))
  clear hb
  have lA := A.lt; have cA0 := A.c0; have cA1 := A.c1
  go_wp2_with fail
  refine (sind_is i (-21) 21 true H1.out _).mono ?_; rintro e w2 ⟨rfl, hb⟩
  replace A := A.below hb
  replace B := B.trans (hb.mono (by have := B.size; simp <;> omega))
  clear hb lA cA0 cA1
  have lA := A.lt; have cA0 := A.c0; have cA1 := A.c1
  go_wp2_with fail
  refine (sind_is t (-36) 36 true H2.out _).mono ?_; rintro e w3 ⟨rfl, hb⟩
  replace A := A.below hb
  replace B := B.trans (hb.mono (by have := B.size; simp <;> omega))
  clear hb lA cA0 cA1
  have lA := A.lt; have cA0 := A.c0; have cA1 := A.c1
  go_wp2_with fail
  refine (sind_is v (-12) 12 true H3.out _).mono ?_; rintro e w4 ⟨rfl, hb⟩
  replace A := A.below hb
  replace B := B.trans (hb.mono (by have := B.size; simp <;> omega))
  clear hb lA cA0 cA1
  have lA := A.lt; have cA0 := A.c0; have cA1 := A.c1
  go_wp2_with fail
  go_ret
  exact ⟨rfl, B⟩
set_option maxHeartbeats 1600000 in
theorem sdbl_is (p : Sc.Pt) (f : Bool) (h : f = true ↔ Sc.dbl p) (w : World) :
    Calls Tryz.prog 85 #[.agg #[.int .i64 p.id, .int .i64 p.se, .int .i64 p.f, .int .i64 p.oc, .int .i64 p.de, .int .i64 p.ss, .int .i64 p.sm, .int .i64 p.ls, .int .i64 p.la, .int .i64 p.lo, .int .i64 p.hs, .int .i64 p.ha, .int .i64 p.ho]] w fun e w' => e = .returned (.bool f) ∧ Below w.heap.size w w' := by
  unfold Sc.dbl at h
  by_cases h0 : p.f = 0
  case pos =>
    rw [if_pos h0] at h
    have b0 : (p.f == 0) = true := by simpa using h0
    obtain ⟨g, hg⟩ : ∃ g, (p.oc == 0) = g := ⟨_, rfl⟩
    obtain rfl : f = g := by rw [Bool.eq_iff_iff, h, ← hg]; simp
    clear h h0
    go_enter Tryz.func85, Tryz.ntmps85
    go_wp2_with fail
    go_ret
    exact ⟨rfl, (Below.refl _ _).alloc (Nat.le_refl _) _⟩
  rw [if_neg h0] at h
  have b0 : (p.f == 0) = false := by simpa using h0
  clear h0
  by_cases q1 : 1 ≤ p.f ∧ p.f ≤ 1000000
  case neg =>
    obtain rfl : f = false := by cases f with
      | false => rfl
      | true => exact absurd (h.1 rfl).1 q1
    have H1 := Lib.hid (decide_eq_false q1)
    clear h q1
    go_enter Tryz.func85, Tryz.ntmps85
    go_wp2_with fail
    have B := Below.refl w.heap.size w
    refine (tisid_is p.f false H1.out _).mono ?_; rintro e w1 ⟨rfl, hb⟩
    have A := (PtB.new _ p).below hb
    replace B := (B.alloc (by have := B.size; simp <;> omega) _).trans (hb.mono (by have := B.size; simp <;> omega))
    clear hb
    have lA := A.lt; have cA0 := A.c0; have cA1 := A.c1; have cA2 := A.c2; have cA3 := A.c3; have cA4 := A.c4; have cA5 := A.c5; have cA6 := A.c6; have cA7 := A.c7; have cA8 := A.c8; have cA9 := A.c9; have cA10 := A.c10; have cA11 := A.c11; have cA12 := A.c12
    go_wp2_with fail
    go_ret
    exact ⟨rfl, B⟩
  have H1 := Lib.hid (decide_eq_true q1)
  by_cases q2 : p.f ≠ p.id
  case neg =>
    obtain rfl : f = false := by cases f with
      | false => rfl
      | true => exact absurd (h.1 rfl).2.1 q2
    have H2 := Lib.hid (show (p.f != p.id) = false by simpa using q2)
    clear h q1 q2
    go_enter Tryz.func85, Tryz.ntmps85
    go_wp2_with fail
    have B := Below.refl w.heap.size w
    refine (tisid_is p.f true H1.out _).mono ?_; rintro e w1 ⟨rfl, hb⟩
    have A := (PtB.new _ p).below hb
    replace B := (B.alloc (by have := B.size; simp <;> omega) _).trans (hb.mono (by have := B.size; simp <;> omega))
    clear hb
    have lA := A.lt; have cA0 := A.c0; have cA1 := A.c1; have cA2 := A.c2; have cA3 := A.c3; have cA4 := A.c4; have cA5 := A.c5; have cA6 := A.c6; have cA7 := A.c7; have cA8 := A.c8; have cA9 := A.c9; have cA10 := A.c10; have cA11 := A.c11; have cA12 := A.c12
    have bq : (p.f != p.id) = false := H2.out
    go_wp2_with fail
    go_ret
    exact ⟨rfl, B⟩
  have H2 := Lib.hid (show (p.f != p.id) = true by simpa using q2)
  by_cases q3 : -2 ≤ p.oc ∧ p.oc ≤ 2
  case neg =>
    obtain rfl : f = false := by cases f with
      | false => rfl
      | true => exact absurd (h.1 rfl).2.2 q3
    have H3 := Lib.hid (decide_eq_false q3)
    clear h q1 q2 q3
    go_enter Tryz.func85, Tryz.ntmps85
    go_wp2_with fail
    have B := Below.refl w.heap.size w
    refine (tisid_is p.f true H1.out _).mono ?_; rintro e w1 ⟨rfl, hb⟩
    have A := (PtB.new _ p).below hb
    replace B := (B.alloc (by have := B.size; simp <;> omega) _).trans (hb.mono (by have := B.size; simp <;> omega))
    clear hb
    have lA := A.lt; have cA0 := A.c0; have cA1 := A.c1; have cA2 := A.c2; have cA3 := A.c3; have cA4 := A.c4; have cA5 := A.c5; have cA6 := A.c6; have cA7 := A.c7; have cA8 := A.c8; have cA9 := A.c9; have cA10 := A.c10; have cA11 := A.c11; have cA12 := A.c12
    have bq : (p.f != p.id) = true := H2.out
    go_wp2_with fail
    refine (tbetween_is p.oc (-2) 2 false H3.out _).mono ?_; rintro e w2 ⟨rfl, hb⟩
    replace A := A.below hb
    replace B := B.trans (hb.mono (by have := B.size; simp <;> omega))
    clear hb lA cA0 cA1 cA2 cA3 cA4 cA5 cA6 cA7 cA8 cA9 cA10 cA11 cA12
    have lA := A.lt; have cA0 := A.c0; have cA1 := A.c1; have cA2 := A.c2; have cA3 := A.c3; have cA4 := A.c4; have cA5 := A.c5; have cA6 := A.c6; have cA7 := A.c7; have cA8 := A.c8; have cA9 := A.c9; have cA10 := A.c10; have cA11 := A.c11; have cA12 := A.c12
    go_wp2_with fail
    go_ret
    exact ⟨rfl, B⟩
  have H3 := Lib.hid (decide_eq_true q3)
  obtain rfl : f = true := h.2 ⟨q1, q2, q3⟩
  clear h q1 q2 q3
  go_enter Tryz.func85, Tryz.ntmps85
  go_wp2_with fail
  have B := Below.refl w.heap.size w
  refine (tisid_is p.f true H1.out _).mono ?_; rintro e w1 ⟨rfl, hb⟩
  have A := (PtB.new _ p).below hb
  replace B := (B.alloc (by have := B.size; simp <;> omega) _).trans (hb.mono (by have := B.size; simp <;> omega))
  clear hb
  have lA := A.lt; have cA0 := A.c0; have cA1 := A.c1; have cA2 := A.c2; have cA3 := A.c3; have cA4 := A.c4; have cA5 := A.c5; have cA6 := A.c6; have cA7 := A.c7; have cA8 := A.c8; have cA9 := A.c9; have cA10 := A.c10; have cA11 := A.c11; have cA12 := A.c12
  have bq : (p.f != p.id) = true := H2.out
  go_wp2_with fail
  refine (tbetween_is p.oc (-2) 2 true H3.out _).mono ?_; rintro e w2 ⟨rfl, hb⟩
  replace A := A.below hb
  replace B := B.trans (hb.mono (by have := B.size; simp <;> omega))
  clear hb lA cA0 cA1 cA2 cA3 cA4 cA5 cA6 cA7 cA8 cA9 cA10 cA11 cA12
  have lA := A.lt; have cA0 := A.c0; have cA1 := A.c1; have cA2 := A.c2; have cA3 := A.c3; have cA4 := A.c4; have cA5 := A.c5; have cA6 := A.c6; have cA7 := A.c7; have cA8 := A.c8; have cA9 := A.c9; have cA10 := A.c10; have cA11 := A.c11; have cA12 := A.c12
  go_wp2_with fail
  go_ret
  exact ⟨rfl, B⟩
end Go.Proofs.YtbbjifhelbeniaaGreatDoor
