/-
  Comparing says the sign of the difference, the other way round the opposite, 0 exactly for the same ratio; and is transitive: the law RatioOrder returns true for any three ratios, valid or not, and leaves them as they were.
  Conditions: none.
-/
import Derived.Test.YtmcjgplinacdaaaHead
import Derived.Test.YtmcjgplinacdaaaRops
import Derived.Test.YtmcjgplinacdaaaOpen
import Derived.Test.YtmcjgplinacdaaaPure
namespace Go.Proofs.Ytmcjgplinacdaaa
open Go.ChangeShapes Go.WideShapes Go.ChangeAt Go.RowKit

set_option maxHeartbeats 1600000 in
theorem order_bad (a b c d e f : Int) (w : World) (hv : (Rt.vld a b && (Rt.vld c d && Rt.vld e f)) = false) :
    Calls Try.prog 7 #[.agg #[.int .i64 a, .int .i64 b], .agg #[.int .i64 c, .int .i64 d], .agg #[.int .i64 e, .int .i64 f]] w fun e w' => e = .returned (.bool true) ∧ Below w.heap.size w w' := by
  by_cases h1 : Rt.vld a b = true
  · by_cases h2 : Rt.vld c d = true
    · have h3 : Rt.vld e f = false := by rw [h1, h2] at hv; simpa using hv
      have V1 := Lib.hid h1
      have V2 := Lib.hid h2
      have V3 := Lib.hid h3
      clear h1 h2 h3 hv
      go_enter Try.func7, Try.ntmps7
      go_wp2_with fail
      refine (head_any _).mono ?_; rintro e w1 ⟨rfl, hb1⟩
      have A_1 := (((At2.new _ _ _ _).alloc _).alloc _).below hb1
      have B_1 := At2.at (w.heap.size + 1) (((At2.new _ _ _ _).alloc _).below hb1) (by simp only [World.size_alloc])
      have C_1 := At2.at (w.heap.size + 1 + 1) ((At2.new _ _ _ _).below hb1) (by simp only [World.size_alloc])
      have B1 := ((((Below.refl w.heap.size w).alloc (Nat.le_refl _) _).alloc (by have := Nat.le_refl w.heap.size; simp <;> omega) _).alloc (by have := Nat.le_refl w.heap.size; simp <;> omega) _).trans (hb1.mono (by simp <;> omega))
      clear hb1
      have l_A := A_1.lt; have c0_A := A_1.c0; have c1_A := A_1.c1
      go_wp2_with fail
      refine (rvalid_is _ _ _ V1.out _).mono ?_; rintro e w2 ⟨rfl, hb2⟩
      have A_2 := A_1.below hb2
      have B_2 := B_1.below hb2
      have C_2 := C_1.below hb2
      have B2 := B1.trans (hb2.mono B1.size)
      clear A_1 B_1 C_1 hb2 B1 l_A c0_A c1_A
      have l_B := B_2.lt; have c0_B := B_2.c0; have c1_B := B_2.c1
      go_wp2_with fail
      refine (rvalid_is _ _ _ V2.out _).mono ?_; rintro e w3 ⟨rfl, hb3⟩
      have A_3 := A_2.below hb3
      have B_3 := B_2.below hb3
      have C_3 := C_2.below hb3
      have B3 := B2.trans (hb3.mono B2.size)
      clear A_2 B_2 C_2 hb3 B2 l_B c0_B c1_B
      have l_C := C_3.lt; have c0_C := C_3.c0; have c1_C := C_3.c1
      go_wp2_with fail
      refine (rvalid_is _ _ _ V3.out _).mono ?_; rintro e w4 ⟨rfl, hb4⟩
      have A_4 := A_3.below hb4
      have B_4 := B_3.below hb4
      have C_4 := C_3.below hb4
      have B4 := B3.trans (hb4.mono B3.size)
      clear A_3 B_3 C_3 hb4 B3 l_C c0_C c1_C
      go_wp2_with fail
      go_ret
      exact ⟨rfl, B4⟩
    · have h2' : Rt.vld c d = false := by simpa using h2
      have V1 := Lib.hid h1
      have V2 := Lib.hid h2'
      clear h1 h2 h2' hv
      go_enter Try.func7, Try.ntmps7
      go_wp2_with fail
      refine (head_any _).mono ?_; rintro e w1 ⟨rfl, hb1⟩
      have A_1 := (((At2.new _ _ _ _).alloc _).alloc _).below hb1
      have B_1 := At2.at (w.heap.size + 1) (((At2.new _ _ _ _).alloc _).below hb1) (by simp only [World.size_alloc])
      have C_1 := At2.at (w.heap.size + 1 + 1) ((At2.new _ _ _ _).below hb1) (by simp only [World.size_alloc])
      have B1 := ((((Below.refl w.heap.size w).alloc (Nat.le_refl _) _).alloc (by have := Nat.le_refl w.heap.size; simp <;> omega) _).alloc (by have := Nat.le_refl w.heap.size; simp <;> omega) _).trans (hb1.mono (by simp <;> omega))
      clear hb1
      have l_A := A_1.lt; have c0_A := A_1.c0; have c1_A := A_1.c1
      go_wp2_with fail
      refine (rvalid_is _ _ _ V1.out _).mono ?_; rintro e w2 ⟨rfl, hb2⟩
      have A_2 := A_1.below hb2
      have B_2 := B_1.below hb2
      have C_2 := C_1.below hb2
      have B2 := B1.trans (hb2.mono B1.size)
      clear A_1 B_1 C_1 hb2 B1 l_A c0_A c1_A
      have l_B := B_2.lt; have c0_B := B_2.c0; have c1_B := B_2.c1
      go_wp2_with fail
      refine (rvalid_is _ _ _ V2.out _).mono ?_; rintro e w3 ⟨rfl, hb3⟩
      have A_3 := A_2.below hb3
      have B_3 := B_2.below hb3
      have C_3 := C_2.below hb3
      have B3 := B2.trans (hb3.mono B2.size)
      clear A_2 B_2 C_2 hb3 B2 l_B c0_B c1_B
      go_wp2_with fail
      go_ret
      exact ⟨rfl, B3⟩
  · have h1' : Rt.vld a b = false := by simpa using h1
    have V1 := Lib.hid h1'
    clear h1 h1' hv
    go_enter Try.func7, Try.ntmps7
    go_wp2_with fail
    refine (head_any _).mono ?_; rintro e w1 ⟨rfl, hb1⟩
    have A_1 := (((At2.new _ _ _ _).alloc _).alloc _).below hb1
    have B_1 := At2.at (w.heap.size + 1) (((At2.new _ _ _ _).alloc _).below hb1) (by simp only [World.size_alloc])
    have C_1 := At2.at (w.heap.size + 1 + 1) ((At2.new _ _ _ _).below hb1) (by simp only [World.size_alloc])
    have B1 := ((((Below.refl w.heap.size w).alloc (Nat.le_refl _) _).alloc (by have := Nat.le_refl w.heap.size; simp <;> omega) _).alloc (by have := Nat.le_refl w.heap.size; simp <;> omega) _).trans (hb1.mono (by simp <;> omega))
    clear hb1
    have l_A := A_1.lt; have c0_A := A_1.c0; have c1_A := A_1.c1
    go_wp2_with fail
    refine (rvalid_is _ _ _ V1.out _).mono ?_; rintro e w2 ⟨rfl, hb2⟩
    have A_2 := A_1.below hb2
    have B_2 := B_1.below hb2
    have C_2 := C_1.below hb2
    have B2 := B1.trans (hb2.mono B1.size)
    clear A_1 B_1 C_1 hb2 B1 l_A c0_A c1_A
    go_wp2_with fail
    go_ret
    exact ⟨rfl, B2⟩

set_option maxHeartbeats 6400000 in
/-- The three numbers of the comparisons are letters; what is asked of them is what the law's tests want. -/
theorem order_ok (a b c d e f x z v p q i : Int) (w : World) (h1 : Rt.vld a b = true) (h2 : Rt.vld c d = true) (h3 : Rt.vld e f = true)
    (hx : Rt.cmpR a b c d = (x, 0)) (hy : Rt.cmpR c d a b = (-x, 0)) (hz : Rt.cmpR c d e f = (z, 0)) (hw : Rt.cmpR a b e f = (v, 0)) (hs : Rt.subR a b c d = (p, q, i))
    (x1 : -1 ≤ x) (x2 : x ≤ 1) (z1 : -1 ≤ z) (z2 : z ≤ 1) (he : x = 0 ↔ a = c ∧ b = d) (t1 : ¬ (x ≤ 0 ∧ z ≤ 0 ∧ 0 < v)) (t2 : ¬ (x ≤ 0 ∧ z ≤ 0 ∧ x + z < 0 ∧ 0 ≤ v))
    (hi : i = 0 ∧ (p < 0 ↔ x < 0) ∧ (0 < p ↔ 0 < x) ∨ i = 3) :
    Calls Try.prog 7 #[.agg #[.int .i64 a, .int .i64 b], .agg #[.int .i64 c, .int .i64 d], .agg #[.int .i64 e, .int .i64 f]] w fun e w' => e = .returned (.bool true) ∧ Below w.heap.size w w' := by
  have V1 := Lib.hid h1
  have V2 := Lib.hid h2
  have V3 := Lib.hid h3
  have HX := Lib.hid hx
  have HY := Lib.hid hy
  have HZ := Lib.hid hz
  have HW := Lib.hid hw
  have HS := Lib.hid hs
  have hi' : (i = 0 ∧ ((x = -1 ∧ p < 0) ∨ (x = 0 ∧ p = 0) ∨ (x = 1 ∧ 0 < p))) ∨ i = 3 := by omega
  have HI := Lib.hid hi'
  have hcase : (a = c ∧ b = d ∧ x = 0) ∨ (a ≠ c ∧ x ≠ 0) ∨ (a = c ∧ b ≠ d ∧ x ≠ 0) := by
    by_cases g1 : a = c
    · by_cases g2 : b = d
      · exact Or.inl ⟨g1, g2, he.2 ⟨g1, g2⟩⟩
      · exact Or.inr (Or.inr ⟨g1, g2, fun h => g2 (he.1 h).2⟩)
    · exact Or.inr (Or.inl ⟨g1, fun h => g1 (he.1 h).1⟩)
  have hzv : (0 < x) ∨ (x ≤ 0 ∧ 0 < z) ∨ (x ≤ 0 ∧ z ≤ 0 ∧ x + z < 0 ∧ v < 0) ∨ (x = 0 ∧ z = 0 ∧ v ≤ 0) := by omega
  clear h1 h2 h3 hx hy hz hw hs hi hi' t1 t2 he
  have hx3 : x = -1 ∨ x = 0 ∨ x = 1 := by omega
  rcases hx3 with rfl | rfl | rfl
  all_goals
    clear x1 x2
    rcases hcase with ⟨rfl, rfl, g2⟩ | ⟨g1, g2⟩ | ⟨rfl, g1, g2⟩
  all_goals try (exfalso; omega)
  all_goals
    clear g2
    rcases hzv with hv | ⟨hv, hv1⟩ | ⟨hv, hv1, hv2, hv3⟩ | ⟨hv, rfl, hv2⟩
  all_goals try (exfalso; omega)
  all_goals
    clear hv
    go_enter Try.func7, Try.ntmps7
    go_wp2_with fail
    refine (head_any _).mono ?_; rintro e w1 ⟨rfl, hb1⟩
    have A_1 := (((At2.new _ _ _ _).alloc _).alloc _).below hb1
    have B_1 := At2.at (w.heap.size + 1) (((At2.new _ _ _ _).alloc _).below hb1) (by simp only [World.size_alloc])
    have C_1 := At2.at (w.heap.size + 1 + 1) ((At2.new _ _ _ _).below hb1) (by simp only [World.size_alloc])
    have B1 := ((((Below.refl w.heap.size w).alloc (Nat.le_refl _) _).alloc (by have := Nat.le_refl w.heap.size; simp <;> omega) _).alloc (by have := Nat.le_refl w.heap.size; simp <;> omega) _).trans (hb1.mono (by simp <;> omega))
    clear hb1
    have l_A := A_1.lt; have c0_A := A_1.c0; have c1_A := A_1.c1
    go_wp2_with fail
    refine (rvalid_is _ _ _ V1.out _).mono ?_; rintro e w2 ⟨rfl, hb2⟩
    have A_2 := A_1.below hb2
    have B_2 := B_1.below hb2
    have C_2 := C_1.below hb2
    have B2 := B1.trans (hb2.mono B1.size)
    clear A_1 B_1 C_1 hb2 B1 l_A c0_A c1_A
    have l_B := B_2.lt; have c0_B := B_2.c0; have c1_B := B_2.c1
    go_wp2_with fail
    refine (rvalid_is _ _ _ V2.out _).mono ?_; rintro e w3 ⟨rfl, hb3⟩
    have A_3 := A_2.below hb3
    have B_3 := B_2.below hb3
    have C_3 := C_2.below hb3
    have B3 := B2.trans (hb3.mono B2.size)
    clear A_2 B_2 C_2 hb3 B2 l_B c0_B c1_B
    have l_C := C_3.lt; have c0_C := C_3.c0; have c1_C := C_3.c1
    go_wp2_with fail
    refine (rvalid_is _ _ _ V3.out _).mono ?_; rintro e w4 ⟨rfl, hb4⟩
    have A_4 := A_3.below hb4
    have B_4 := B_3.below hb4
    have C_4 := C_3.below hb4
    have B4 := B3.trans (hb4.mono B3.size)
    clear A_3 B_3 C_3 hb4 B3 l_C c0_C c1_C
    have l_A := A_4.lt; have c0_A := A_4.c0; have c1_A := A_4.c1
    have l_B := B_4.lt; have c0_B := B_4.c0; have c1_B := B_4.c1
    go_wp2_with fail
    refine (compare_is _ _ _ _ _ _ HX.out _).mono ?_; rintro e w5 ⟨rfl, hb5⟩
    have A_5 := A_4.below hb5
    have B_5 := B_4.below hb5
    have C_5 := C_4.below hb5
    have B5 := B4.trans (hb5.mono B4.size)
    clear A_4 B_4 C_4 hb5 B4 l_A c0_A c1_A l_B c0_B c1_B
    have l_A := A_5.lt; have c0_A := A_5.c0; have c1_A := A_5.c1
    have l_B := B_5.lt; have c0_B := B_5.c0; have c1_B := B_5.c1
    go_wp2_with fail
    refine (compare_is _ _ _ _ _ _ HY.out _).mono ?_; rintro e w6 ⟨rfl, hb6⟩
    have A_6 := A_5.below hb6
    have B_6 := B_5.below hb6
    have C_6 := C_5.below hb6
    have B6 := B5.trans (hb6.mono B5.size)
    clear A_5 B_5 C_5 hb6 B5 l_A c0_A c1_A l_B c0_B c1_B
    have l_B := B_6.lt; have c0_B := B_6.c0; have c1_B := B_6.c1
    have l_C := C_6.lt; have c0_C := C_6.c0; have c1_C := C_6.c1
    go_wp2_with fail
    refine (compare_is _ _ _ _ _ _ HZ.out _).mono ?_; rintro e w7 ⟨rfl, hb7⟩
    have A_7 := A_6.below hb7
    have B_7 := B_6.below hb7
    have C_7 := C_6.below hb7
    have B7 := B6.trans (hb7.mono B6.size)
    clear A_6 B_6 C_6 hb7 B6 l_B c0_B c1_B l_C c0_C c1_C
    have l_A := A_7.lt; have c0_A := A_7.c0; have c1_A := A_7.c1
    have l_C := C_7.lt; have c0_C := C_7.c0; have c1_C := C_7.c1
    go_wp2_with fail
    refine (compare_is _ _ _ _ _ _ HW.out _).mono ?_; rintro e w8 ⟨rfl, hb8⟩
    have A_8 := A_7.below hb8
    have B_8 := B_7.below hb8
    have C_8 := C_7.below hb8
    have B8 := B7.trans (hb8.mono B7.size)
    clear A_7 B_7 C_7 hb8 B7 l_A c0_A c1_A l_C c0_C c1_C
    have l_A := A_8.lt; have c0_A := A_8.c0; have c1_A := A_8.c1
    have l_B := B_8.lt; have c0_B := B_8.c0; have c1_B := B_8.c1
    go_wp2_with fail
    refine (sub_is _ _ _ _ _ _ _ HS.out _).mono ?_; rintro e w9 ⟨rfl, hb9⟩
    have A_9 := A_8.below hb9
    have B_9 := B_8.below hb9
    have C_9 := C_8.below hb9
    have B9 := B8.trans (hb9.mono B8.size)
    clear A_8 B_8 C_8 hb9 B8 l_A c0_A c1_A l_B c0_B c1_B
    rcases HI.out with ⟨rfl, hp⟩ | rfl
    · rcases hp with ⟨hx', hp⟩ | ⟨hx', rfl⟩ | ⟨hx', hp⟩
      all_goals
        first
          | (exfalso; omega)
          | (clear hx'; have d1 : decide (p < 0) = true := (by simpa using hp); have d2 : decide (0 < p) = false := (by simp; omega); go_wp2_with fail; go_ret; exact ⟨rfl, B9.alloc B9.size _⟩)
          | (clear hx'; have d1 : decide (p < 0) = false := (by simp; omega); have d2 : decide (0 < p) = true := (by simpa using hp); go_wp2_with fail; go_ret; exact ⟨rfl, B9.alloc B9.size _⟩)
          | (clear hx'; go_wp2_with fail; go_ret; exact ⟨rfl, B9.alloc B9.size _⟩)
    · go_wp2_with fail
      go_ret
      exact ⟨rfl, B9.alloc B9.size _⟩

theorem ratioOrder_walk (a b c d e f : Int) (w : World) :
    Calls Try.prog 7 #[.agg #[.int .i64 a, .int .i64 b], .agg #[.int .i64 c, .int .i64 d], .agg #[.int .i64 e, .int .i64 f]] w fun e w' => e = .returned (.bool true) ∧ Below w.heap.size w w' := by
  by_cases hv : (Rt.vld a b && (Rt.vld c d && Rt.vld e f)) = true
  · simp only [Bool.and_eq_true] at hv
    obtain ⟨h1, h2, h3⟩ := hv
    have l1 := Rt.vld_lim h1
    have l2 := Rt.vld_lim h2
    have l3 := Rt.vld_lim h3
    obtain ⟨p, q, i, hs⟩ : ∃ p q i, Rt.subR a b c d = (p, q, i) := ⟨_, _, _, rfl⟩
    refine order_ok a b c d e f _ _ _ p q i w h1 h2 h3 (Rt.cmp_ok h1 h2) ((Rt.cmp_ok h2 h1).trans (by rw [Rt.cmpI_neg])) (Rt.cmp_ok h2 h3) (Rt.cmp_ok h1 h3) hs
      (Rt.cmpI_in _ _).1 (Rt.cmpI_in _ _).2 (Rt.cmpI_in _ _).1 (Rt.cmpI_in _ _).2 (Rt.cmp_same h1 h2) ?_ ?_ ?_
    · rintro ⟨g1, g2, g3⟩
      have a1 : a * d ≤ c * b := by have := (Rt.cmpI_gt (a * d) (c * b)); omega
      have a2 : c * f ≤ e * d := by have := (Rt.cmpI_gt (c * f) (e * d)); omega
      have a3 := (Rt.cmpI_gt (a * f) (e * b)).1 g3
      have := Rt.le_trans' (by omega) (by omega) (by omega) a1 a2 (b := b) (d := d) (f := f)
      omega
    · rintro ⟨g1, g2, g3, g4⟩
      have a1 : a * d ≤ c * b := by have := (Rt.cmpI_gt (a * d) (c * b)); omega
      have a2 : c * f ≤ e * d := by have := (Rt.cmpI_gt (c * f) (e * d)); omega
      have a3 : a * d < c * b ∨ c * f < e * d := by
        have := (Rt.cmpI_lt (a * d) (c * b)); have := (Rt.cmpI_lt (c * f) (e * d)); omega
      have := Rt.lt_trans' (by omega) (by omega) (by omega) a1 a2 a3 (b := b) (d := d) (f := f)
      have := (Rt.cmpI_lt (a * f) (e * b)); omega
    · by_cases hi : i = 0
      · subst hi
        have := Rt.sub_sign hs
        exact Or.inl ⟨rfl, by rw [this.1, Rt.cmpI_lt], by rw [this.2, Rt.cmpI_gt]⟩
      · obtain ⟨_, _, g⟩ := Rt.sub_err hs hi
        rcases g with ⟨g, _, _⟩ | ⟨g, g'⟩
        · exact Or.inr g
        · exfalso
          rcases g' with g' | g'
          · rw [h1, h2] at g'; simp at g'
          · exact Int.mul_ne_zero (show b ≠ 0 by omega) (show d ≠ 0 by omega) g'
  · exact order_bad a b c d e f w (by simpa using hv)

set_option maxRecDepth 100000 in
theorem ratioOrder_lifted (os : Os) (started : os.Started) (H : Type) (enc : TypeId × Value → H) :
    ReturnsInHanded {} Try.checked os 7 .any (Rows.ratioOrderSpec.pre6 enc Try.prog Try.f7 Rows.ratioOrderRow.domain false) (Rows.ratioOrderSpec.post enc Try.prog Try.f7 false true false false) := by
  refine returnsInHanded_of_change (C := Try.checked) own started (by kernel_rfl) Try.func7
    (ChangeSpec.witness6 (enc := enc) (C := Try.checked) false ⟨#[], #[.agg #[.int .i64 0, .int .i64 0], .agg #[.int .i64 0, .int .i64 0], .agg #[.int .i64 0, .int .i64 0]], []⟩ 8 (by kernel_rfl) (by kernel_rfl) (by kernel_rfl) (by kernel_rfl)) ?_
  intro W base args ds gs before hval0 hW _ _
  have hval : ∀ (j : Nat) t v, Try.f7.params[j]? = some t → args[j]? = some v → Value.okWide Try.prog W .any base t v := hval0
  have hW' := hW
  obtain ⟨p, q, hA0, hV, rfl, _, _⟩ := hW
  have hA : DataW.TrodAll enc Try.prog W 0 (fun _ => true) true Try.f7.params.toList args.toList ds p := hA0
  rw [Try.params7] at hA hval
  obtain ⟨v0, vs0, d0, ds0, p0, q0, hargs, rfl, rfl, h0, r0⟩ := trodAll_cons hA
  obtain ⟨v1, vs1, d1, ds1, p1, q1, rfl, rfl, rfl, h1, r1⟩ := trodAll_cons r0
  obtain ⟨v2, vs2, d2, ds2, p2, q2, rfl, rfl, rfl, h2, r2⟩ := trodAll_cons r1
  obtain ⟨rfl, rfl, rfl⟩ := trodAll_nil r2
  obtain rfl : args = #[v0, v1, v2] := by cases args; simp_all
  obtain ⟨rfl, rfl⟩ := trodVars_none hV
  have k0 := h0
  have lt0 : ∀ x ∈ p0, x.block < W.heap.size := by obtain ⟨m, hm⟩ := k0; exact DataW.trod_lt m _ _ _ hm
  have k1 := h1
  have lt1 : ∀ x ∈ p1, x.block < W.heap.size := by obtain ⟨m, hm⟩ := k1; exact DataW.trod_lt m _ _ _ hm
  have k2 := h2
  have lt2 : ∀ x ∈ p2, x.block < W.heap.size := by obtain ⟨m, hm⟩ := k2; exact DataW.trod_lt m _ _ _ hm
  obtain ⟨a0, b0, rfl⟩ := open_rat (hval 0 23 v0 rfl rfl) h0
  obtain ⟨a1, b1, rfl⟩ := open_rat (hval 1 23 v1 rfl rfl) h1
  obtain ⟨a2, b2, rfl⟩ := open_rat (hval 2 23 v2 rfl rfl) h2
  clear hA0 hval0
  refine (ratioOrder_walk a0 b0 a1 b1 a2 b2 W).mono fun e W' ⟨he, bel⟩ => ?_
  subst he
  exact ⟨_, rfl, _, _, _, [], _, [], hW', trodAll_mk1 (shut_bool Try.underlying4 _), (trodAll_cons_mk (Below.trod laidOut (by kernel_rfl) (of_decide_eq_true (by kernel_rfl)) k0 bel lt0) (trodAll_cons_mk (Below.trod laidOut (by kernel_rfl) (of_decide_eq_true (by kernel_rfl)) k1 bel lt1) (trodAll_cons_mk (Below.trod laidOut (by kernel_rfl) (of_decide_eq_true (by kernel_rfl)) k2 bel lt2) trodAll_mk0))), rfl, bel.frame _, fun h => by cases h⟩

/-- THE STATEMENT. -/
theorem ratioOrder_holds : Rows.RatioOrderSaid :=
  OpenClaim.holds_of_wide 7 Try.f7 rfl rfl rfl rfl rfl rfl rfl ⟨rfl, rfl, rfl, rfl, rfl⟩ rfl rfl rfl rfl rfl (by kernel_rfl) Try.func7 (by kernel_rfl)
    (of_decide_eq_true (by kernel_rfl)) (by unfold Func.isWrapper; first | (rw [if_pos (by decide +kernel)]; kernel_rfl) | (rw [if_neg (by decide +kernel)]; exact ⟨rfl, rfl⟩))
    (fun os started H enc _ => ratioOrder_lifted os started H enc)

end Go.Proofs.Ytmcjgplinacdaaa
