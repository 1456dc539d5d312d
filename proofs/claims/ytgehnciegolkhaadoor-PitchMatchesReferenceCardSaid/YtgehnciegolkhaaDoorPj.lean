/- The reference's Join and Between. -/
import Derived.Test.YtgehnciegolkhaaDoorPr
namespace Go.Proofs.YtgehnciegolkhaaDoor
open Go.RowKit

set_option maxHeartbeats 1600000 in
theorem rjoin_is (i t j u I T E : Int) (h : Pt.joinR i t j u = (I, T, E)) (w : World) :
    Calls Tryd.prog 19 #[.agg #[.int .i64 i, .int .i64 t], .agg #[.int .i64 j, .int .i64 u]] w fun e w' => e = .returned (.tuple #[.agg #[.int .i64 I, .int .i64 T], .int .i64 E]) ∧ Below w.heap.size w w' := by
  unfold Pt.joinR at h
  by_cases hv : (Pt.iv i t && Pt.iv j u) = true
  · rw [if_pos hv] at h
    simp only [Bool.and_eq_true] at hv
    have HV := Lib.hid hv.1
    have HU := Lib.hid hv.2
    have L := Lib.hid (And.intro (Pt.iv_iff.1 hv.1) (Pt.iv_iff.1 hv.2))
    clear hv
    by_cases hz : Pt.iv (i + j) (t + u) = true
    · rw [if_pos hz] at h
      simp only [Prod.mk.injEq] at h
      obtain ⟨rfl, rfl, rfl⟩ := h
      have HZ := Lib.hid hz
      clear hz
      go_enter Tryd.func19, Tryd.ntmps19
      go_wp2_with fail
      refine (form_is _ _ _ HV.out _).mono ?_; rintro e w1 ⟨rfl, hb1⟩
      have S1 : w1.heap.size ≥ w.heap.size + 3 := by have := hb1.size; simp at this; omega
      have A := (((At2.new w i t _).alloc _).alloc _).below hb1
      have B := ((At2.new (w.alloc _) j u _).alloc _).below hb1
      have V := (Var2.new ((w.alloc _).alloc _) 0 0 _).below hb1
      have G : Below w.heap.size w w1 := ((((Below.refl _ _).alloc (Nat.le_refl _) _).alloc (by simp) _).alloc (by simp; omega) _).trans (hb1.mono (by simp; omega))
      simp only [World.size_alloc] at B V
      clear hb1
      obtain ⟨b0, b1⟩ := And.intro B.c0 B.c1
      go_wp2_with fail
      refine (form_is _ _ _ HU.out _).mono ?_; rintro e w2 ⟨rfl, hb2⟩
      replace A := A.below hb2
      replace B := B.below hb2
      replace V := V.below hb2
      replace G := G.trans (hb2.mono (by omega))
      have S2 : w2.heap.size ≥ w.heap.size + 3 := by have := hb2.size; omega
      clear hb2 b0 b1
      obtain ⟨a0, a1, b0, b1⟩ := And.intro A.c0 (And.intro A.c1 (And.intro B.c0 B.c1))
      obtain ⟨v0, v1, f0, f1⟩ := And.intro V.at2.c0 (And.intro V.at2.c1 (And.intro V.f0 V.f1))
      obtain ⟨⟨l1, l2, l3, l4⟩, l5, l6, l7, l8⟩ := L.out
      go_wp2_with fail
      refine (form_is _ _ _ HZ.out _).mono ?_; rintro e w3 ⟨rfl, hb3⟩
      have A4 := (At2.new w2 (i + j) (t + u) _).below hb3
      replace V := (V.alloc _).below hb3
      have S3 := hb3.size
      simp only [World.size_alloc] at S3
      replace G := (G.alloc (by omega) _).trans (hb3.mono (by simp; omega))
      clear hb3 a0 a1 b0 b1 v0 v1 f0 f1
      obtain ⟨a0, a1⟩ := And.intro A4.c0 A4.c1
      obtain ⟨v0, v1, f0, f1⟩ := And.intro V.at2.c0 (And.intro V.at2.c1 (And.intro V.f0 V.f1))
      go_wp2_with fail
      refine bodyPost_ret (v := .tuple #[.agg #[.int .i64 (i + j), .int .i64 (t + u)], .int .i64 0]) (by simp [results, Tryd.results19, go_sem, v0, v1]) rfl ⟨rfl, ?_⟩
      exact (G.setCell (by simp <;> omega) _).setCell (by simp <;> omega) _
    · rw [if_neg hz] at h
      simp only [Prod.mk.injEq] at h
      obtain ⟨rfl, rfl, rfl⟩ := h
      have HZ : Hid (Pt.iv (i + j) (t + u) = false) := Lib.hid (by simpa using hz)
      clear hz
      go_enter Tryd.func19, Tryd.ntmps19
      go_wp2_with fail
      refine (form_is _ _ _ HV.out _).mono ?_; rintro e w1 ⟨rfl, hb1⟩
      have S1 : w1.heap.size ≥ w.heap.size + 3 := by have := hb1.size; simp at this; omega
      have A := (((At2.new w i t _).alloc _).alloc _).below hb1
      have B := ((At2.new (w.alloc _) j u _).alloc _).below hb1
      have V := (Var2.new ((w.alloc _).alloc _) 0 0 _).below hb1
      have G : Below w.heap.size w w1 := ((((Below.refl _ _).alloc (Nat.le_refl _) _).alloc (by simp) _).alloc (by simp; omega) _).trans (hb1.mono (by simp; omega))
      simp only [World.size_alloc] at B V
      clear hb1
      obtain ⟨b0, b1⟩ := And.intro B.c0 B.c1
      go_wp2_with fail
      refine (form_is _ _ _ HU.out _).mono ?_; rintro e w2 ⟨rfl, hb2⟩
      replace A := A.below hb2
      replace B := B.below hb2
      replace V := V.below hb2
      replace G := G.trans (hb2.mono (by omega))
      have S2 : w2.heap.size ≥ w.heap.size + 3 := by have := hb2.size; omega
      clear hb2 b0 b1
      obtain ⟨a0, a1, b0, b1⟩ := And.intro A.c0 (And.intro A.c1 (And.intro B.c0 B.c1))
      obtain ⟨v0, v1, f0, f1⟩ := And.intro V.at2.c0 (And.intro V.at2.c1 (And.intro V.f0 V.f1))
      obtain ⟨⟨l1, l2, l3, l4⟩, l5, l6, l7, l8⟩ := L.out
      go_wp2_with fail
      refine (form_is _ _ _ HZ.out _).mono ?_; rintro e w3 ⟨rfl, hb3⟩
      have A4 := (At2.new w2 (i + j) (t + u) _).below hb3
      replace V := (V.alloc _).below hb3
      have S3 := hb3.size
      simp only [World.size_alloc] at S3
      replace G := (G.alloc (by omega) _).trans (hb3.mono (by simp; omega))
      clear hb3 a0 a1 b0 b1 v0 v1 f0 f1
      obtain ⟨a0, a1⟩ := And.intro A4.c0 A4.c1
      obtain ⟨v0, v1, f0, f1⟩ := And.intro V.at2.c0 (And.intro V.at2.c1 (And.intro V.f0 V.f1))
      go_wp2_with fail
      refine bodyPost_ret (v := .tuple #[.agg #[.int .i64 0, .int .i64 0], .int .i64 3]) (by simp [results, Tryd.results19, go_sem, v0, v1]) rfl ⟨rfl, ?_⟩
      exact (G.setCell (by simp <;> omega) _).setCell (by simp <;> omega) _
  · have hv' : (Pt.iv i t && Pt.iv j u) = false := by simpa using hv
    rw [if_neg hv] at h
    simp only [Prod.mk.injEq] at h
    obtain ⟨rfl, rfl, rfl⟩ := h
    obtain ⟨x, hx⟩ : ∃ x, Pt.iv i t = x := ⟨_, rfl⟩
    obtain ⟨y, hy⟩ : ∃ y, Pt.iv j u = y := ⟨_, rfl⟩
    rw [hx, hy] at hv'
    have HV := Lib.hid hx
    have HU := Lib.hid hy
    clear hx hy hv
    cases x <;> cases y
    case true.true => exact absurd hv' (by simp)
    all_goals
      go_enter Tryd.func19, Tryd.ntmps19
      go_wp2_with fail
      refine (form_is _ _ _ HV.out _).mono ?_; rintro e w1 ⟨rfl, hb1⟩
      have S1 : w1.heap.size ≥ w.heap.size + 3 := by have := hb1.size; simp at this; omega
      have A := (((At2.new w i t _).alloc _).alloc _).below hb1
      have B := ((At2.new (w.alloc _) j u _).alloc _).below hb1
      have V := (Var2.new ((w.alloc _).alloc _) 0 0 _).below hb1
      have G : Below w.heap.size w w1 := ((((Below.refl _ _).alloc (Nat.le_refl _) _).alloc (by simp) _).alloc (by simp; omega) _).trans (hb1.mono (by simp; omega))
      simp only [World.size_alloc] at B V
      clear hb1
      obtain ⟨b0, b1⟩ := And.intro B.c0 B.c1
      go_wp2_with fail
      refine (form_is _ _ _ HU.out _).mono ?_; rintro e w2 ⟨rfl, hb2⟩
      replace A := A.below hb2
      replace B := B.below hb2
      replace V := V.below hb2
      replace G := G.trans (hb2.mono (by omega))
      have S2 : w2.heap.size ≥ w.heap.size + 3 := by have := hb2.size; omega
      clear hb2 b0 b1
      obtain ⟨a0, a1, b0, b1⟩ := And.intro A.c0 (And.intro A.c1 (And.intro B.c0 B.c1))
      obtain ⟨v0, v1, f0, f1⟩ := And.intro V.at2.c0 (And.intro V.at2.c1 (And.intro V.f0 V.f1))
      go_wp2_with fail
      refine bodyPost_ret (v := .tuple #[.agg #[.int .i64 0, .int .i64 0], .int .i64 1]) (by simp [results, Tryd.results19, go_sem, v0, v1]) rfl ⟨rfl, ?_⟩
      exact (G.setCell (by simp <;> omega) _).setCell (by simp <;> omega) _

end Go.Proofs.YtgehnciegolkhaaDoor
