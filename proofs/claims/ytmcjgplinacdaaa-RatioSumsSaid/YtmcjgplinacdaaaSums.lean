/-
  The order of a sum plays no part; what is added and subtracted again leaves the ratio as it was; three ratios can be added from either side, and as a list: the law RatioSums returns true for any three ratios, valid or not, and leaves them as they were.
  Conditions: none.
-/
import Derived.Test.YtmcjgplinacdaaaHead
import Derived.Test.YtmcjgplinacdaaaRops
import Derived.Test.YtmcjgplinacdaaaOpen
import Derived.Test.YtmcjgplinacdaaaPure
namespace Go.Proofs.Ytmcjgplinacdaaa
open Go.ChangeShapes Go.WideShapes Go.ChangeAt Go.RowKit

set_option maxHeartbeats 1600000 in
theorem sums_err3 (a b c d e f : Int) (w : World) (hx : Rt.addR a b c d = (0, 0, 3)) :
    Calls Try.prog 5 #[.agg #[.int .i64 a, .int .i64 b], .agg #[.int .i64 c, .int .i64 d], .agg #[.int .i64 e, .int .i64 f]] w fun e w' => e = .returned (.bool true) ∧ Below w.heap.size w w' := by
  have HX := Lib.hid hx
  have HY := Lib.hid ((Rt.add_comm c d a b).trans hx)
  clear hx
  go_enter Try.func5, Try.ntmps5
  go_wp2_with fail
  refine (head_any _).mono ?_; rintro e w1 ⟨rfl, hb1⟩
  have A_1 := (((At2.new _ _ _ _).alloc _).alloc _).below hb1
  have B_1 := At2.at (w.heap.size + 1) (((At2.new _ _ _ _).alloc _).below hb1) (by simp only [World.size_alloc])
  have C_1 := At2.at (w.heap.size + 1 + 1) ((At2.new _ _ _ _).below hb1) (by simp only [World.size_alloc])
  have B1 := ((((Below.refl w.heap.size w).alloc (Nat.le_refl _) _).alloc (by have := Nat.le_refl w.heap.size; simp <;> omega) _).alloc (by have := Nat.le_refl w.heap.size; simp <;> omega) _).trans (hb1.mono (by simp <;> omega))
  clear hb1
  have l_A := A_1.lt; have c0_A := A_1.c0; have c1_A := A_1.c1
  have l_B := B_1.lt; have c0_B := B_1.c0; have c1_B := B_1.c1
  go_wp2_with fail
  refine (add_is _ _ _ _ _ _ _ HX.out _).mono ?_; rintro e w2 ⟨rfl, hb2⟩
  have A_2 := A_1.below hb2
  have B_2 := B_1.below hb2
  have C_2 := C_1.below hb2
  have B2 := B1.trans (hb2.mono B1.size)
  clear A_1 B_1 C_1 hb2 B1 l_A c0_A c1_A l_B c0_B c1_B
  have l_A := A_2.lt; have c0_A := A_2.c0; have c1_A := A_2.c1
  have l_B := B_2.lt; have c0_B := B_2.c0; have c1_B := B_2.c1
  go_wp2_with fail
  refine (add_is _ _ _ _ _ _ _ HY.out _).mono ?_; rintro e w3 ⟨rfl, hb3⟩
  have A_3 := (A_2.alloc _).below hb3
  have B_3 := (B_2.alloc _).below hb3
  have C_3 := (C_2.alloc _).below hb3
  have X_3 := (At2.new _ _ _ _).below hb3
  have B3 := (B2.alloc (by have := B2.size; simp <;> omega) _).trans (hb3.mono (by have := B2.size; simp <;> omega))
  clear A_2 B_2 C_2 hb3 B2 l_A c0_A c1_A l_B c0_B c1_B
  have l_A := A_3.lt; have c0_A := A_3.c0; have c1_A := A_3.c1
  have l_B := B_3.lt; have c0_B := B_3.c0; have c1_B := B_3.c1
  have l_X := X_3.lt; have c0_X := X_3.c0; have c1_X := X_3.c1
  go_wp2_with fail
  go_ret
  exact ⟨rfl, (B3.alloc B3.size _)⟩

set_option maxHeartbeats 1600000 in
theorem sums_err1 (a b c d e f : Int) (w : World) (hx : Rt.addR a b c d = (0, 0, 1)) (hv : (Rt.vld a b && Rt.vld c d) = false) :
    Calls Try.prog 5 #[.agg #[.int .i64 a, .int .i64 b], .agg #[.int .i64 c, .int .i64 d], .agg #[.int .i64 e, .int .i64 f]] w fun e w' => e = .returned (.bool true) ∧ Below w.heap.size w w' := by
  have HX := Lib.hid hx
  have HY := Lib.hid ((Rt.add_comm c d a b).trans hx)
  clear hx
  by_cases h1 : Rt.vld a b = true
  · have h2 : Rt.vld c d = false := by rw [h1] at hv; simpa using hv
    have V1 := Lib.hid h1
    have V2 := Lib.hid h2
    clear h1 h2 hv
    go_enter Try.func5, Try.ntmps5
    go_wp2_with fail
    refine (head_any _).mono ?_; rintro e w1 ⟨rfl, hb1⟩
    have A_1 := (((At2.new _ _ _ _).alloc _).alloc _).below hb1
    have B_1 := At2.at (w.heap.size + 1) (((At2.new _ _ _ _).alloc _).below hb1) (by simp only [World.size_alloc])
    have C_1 := At2.at (w.heap.size + 1 + 1) ((At2.new _ _ _ _).below hb1) (by simp only [World.size_alloc])
    have B1 := ((((Below.refl w.heap.size w).alloc (Nat.le_refl _) _).alloc (by have := Nat.le_refl w.heap.size; simp <;> omega) _).alloc (by have := Nat.le_refl w.heap.size; simp <;> omega) _).trans (hb1.mono (by simp <;> omega))
    clear hb1
    have l_A := A_1.lt; have c0_A := A_1.c0; have c1_A := A_1.c1
    have l_B := B_1.lt; have c0_B := B_1.c0; have c1_B := B_1.c1
    go_wp2_with fail
    refine (add_is _ _ _ _ _ _ _ HX.out _).mono ?_; rintro e w2 ⟨rfl, hb2⟩
    have A_2 := A_1.below hb2
    have B_2 := B_1.below hb2
    have C_2 := C_1.below hb2
    have B2 := B1.trans (hb2.mono B1.size)
    clear A_1 B_1 C_1 hb2 B1 l_A c0_A c1_A l_B c0_B c1_B
    have l_A := A_2.lt; have c0_A := A_2.c0; have c1_A := A_2.c1
    have l_B := B_2.lt; have c0_B := B_2.c0; have c1_B := B_2.c1
    go_wp2_with fail
    refine (add_is _ _ _ _ _ _ _ HY.out _).mono ?_; rintro e w3 ⟨rfl, hb3⟩
    have A_3 := (A_2.alloc _).below hb3
    have B_3 := (B_2.alloc _).below hb3
    have C_3 := (C_2.alloc _).below hb3
    have X_3 := (At2.new _ _ _ _).below hb3
    have B3 := (B2.alloc (by have := B2.size; simp <;> omega) _).trans (hb3.mono (by have := B2.size; simp <;> omega))
    clear A_2 B_2 C_2 hb3 B2 l_A c0_A c1_A l_B c0_B c1_B
    have l_A := A_3.lt; have c0_A := A_3.c0; have c1_A := A_3.c1
    have l_B := B_3.lt; have c0_B := B_3.c0; have c1_B := B_3.c1
    have l_X := X_3.lt; have c0_X := X_3.c0; have c1_X := X_3.c1
    go_wp2_with fail
    refine (rvalid_is _ _ _ V1.out _).mono ?_; rintro e w4 ⟨rfl, hb4⟩
    have A_4 := (A_3.alloc _).below hb4
    have B_4 := (B_3.alloc _).below hb4
    have C_4 := (C_3.alloc _).below hb4
    have X_4 := (X_3.alloc _).below hb4
    have Y_4 := (At2.new _ _ _ _).below hb4
    have B4 := (B3.alloc (by have := B3.size; simp <;> omega) _).trans (hb4.mono (by have := B3.size; simp <;> omega))
    clear A_3 B_3 C_3 X_3 hb4 B3 l_A c0_A c1_A l_B c0_B c1_B l_X c0_X c1_X
    have l_A := A_4.lt; have c0_A := A_4.c0; have c1_A := A_4.c1
    have l_B := B_4.lt; have c0_B := B_4.c0; have c1_B := B_4.c1
    have l_X := X_4.lt; have c0_X := X_4.c0; have c1_X := X_4.c1
    go_wp2_with fail
    refine (rvalid_is _ _ _ V2.out _).mono ?_; rintro e w5 ⟨rfl, hb5⟩
    have A_5 := A_4.below hb5
    have B_5 := B_4.below hb5
    have C_5 := C_4.below hb5
    have X_5 := X_4.below hb5
    have Y_5 := Y_4.below hb5
    have B5 := B4.trans (hb5.mono B4.size)
    clear A_4 B_4 C_4 X_4 Y_4 hb5 B4 l_A c0_A c1_A l_B c0_B c1_B l_X c0_X c1_X
    go_wp2_with fail
    go_ret
    exact ⟨rfl, B5⟩
  · have h1' : Rt.vld a b = false := by simpa using h1
    have V1 := Lib.hid h1'
    clear h1 h1' hv
    go_enter Try.func5, Try.ntmps5
    go_wp2_with fail
    refine (head_any _).mono ?_; rintro e w1 ⟨rfl, hb1⟩
    have A_1 := (((At2.new _ _ _ _).alloc _).alloc _).below hb1
    have B_1 := At2.at (w.heap.size + 1) (((At2.new _ _ _ _).alloc _).below hb1) (by simp only [World.size_alloc])
    have C_1 := At2.at (w.heap.size + 1 + 1) ((At2.new _ _ _ _).below hb1) (by simp only [World.size_alloc])
    have B1 := ((((Below.refl w.heap.size w).alloc (Nat.le_refl _) _).alloc (by have := Nat.le_refl w.heap.size; simp <;> omega) _).alloc (by have := Nat.le_refl w.heap.size; simp <;> omega) _).trans (hb1.mono (by simp <;> omega))
    clear hb1
    have l_A := A_1.lt; have c0_A := A_1.c0; have c1_A := A_1.c1
    have l_B := B_1.lt; have c0_B := B_1.c0; have c1_B := B_1.c1
    go_wp2_with fail
    refine (add_is _ _ _ _ _ _ _ HX.out _).mono ?_; rintro e w2 ⟨rfl, hb2⟩
    have A_2 := A_1.below hb2
    have B_2 := B_1.below hb2
    have C_2 := C_1.below hb2
    have B2 := B1.trans (hb2.mono B1.size)
    clear A_1 B_1 C_1 hb2 B1 l_A c0_A c1_A l_B c0_B c1_B
    have l_A := A_2.lt; have c0_A := A_2.c0; have c1_A := A_2.c1
    have l_B := B_2.lt; have c0_B := B_2.c0; have c1_B := B_2.c1
    go_wp2_with fail
    refine (add_is _ _ _ _ _ _ _ HY.out _).mono ?_; rintro e w3 ⟨rfl, hb3⟩
    have A_3 := (A_2.alloc _).below hb3
    have B_3 := (B_2.alloc _).below hb3
    have C_3 := (C_2.alloc _).below hb3
    have X_3 := (At2.new _ _ _ _).below hb3
    have B3 := (B2.alloc (by have := B2.size; simp <;> omega) _).trans (hb3.mono (by have := B2.size; simp <;> omega))
    clear A_2 B_2 C_2 hb3 B2 l_A c0_A c1_A l_B c0_B c1_B
    have l_A := A_3.lt; have c0_A := A_3.c0; have c1_A := A_3.c1
    have l_B := B_3.lt; have c0_B := B_3.c0; have c1_B := B_3.c1
    have l_X := X_3.lt; have c0_X := X_3.c0; have c1_X := X_3.c1
    go_wp2_with fail
    refine (rvalid_is _ _ _ V1.out _).mono ?_; rintro e w4 ⟨rfl, hb4⟩
    have A_4 := (A_3.alloc _).below hb4
    have B_4 := (B_3.alloc _).below hb4
    have C_4 := (C_3.alloc _).below hb4
    have X_4 := (X_3.alloc _).below hb4
    have Y_4 := (At2.new _ _ _ _).below hb4
    have B4 := (B3.alloc (by have := B3.size; simp <;> omega) _).trans (hb4.mono (by have := B3.size; simp <;> omega))
    clear A_3 B_3 C_3 X_3 hb4 B3 l_A c0_A c1_A l_B c0_B c1_B l_X c0_X c1_X
    have l_A := A_4.lt; have c0_A := A_4.c0; have c1_A := A_4.c1
    have l_B := B_4.lt; have c0_B := B_4.c0; have c1_B := B_4.c1
    have l_X := X_4.lt; have c0_X := X_4.c0; have c1_X := X_4.c1
    go_wp2_with fail
    go_ret
    exact ⟨rfl, B4⟩

set_option maxHeartbeats 3200000 in
theorem sums_ok (a b c d e f x y l m h z u i r s j : Int) (w : World) (hx : Rt.addR a b c d = (x, y, 0)) (hl : Rt.addR x y e f = (l, m, h)) (hz : Rt.addR c d e f = (z, u, i)) (hr : Rt.addR a b z u = (r, s, j))
    (ht : (h != 0 || (i != 0 || (j == 0 && (l == r && m == s)))) = true) :
    Calls Try.prog 5 #[.agg #[.int .i64 a, .int .i64 b], .agg #[.int .i64 c, .int .i64 d], .agg #[.int .i64 e, .int .i64 f]] w fun e w' => e = .returned (.bool true) ∧ Below w.heap.size w w' := by
  have HX := Lib.hid hx
  have HY := Lib.hid ((Rt.add_comm c d a b).trans hx)
  have HB := Lib.hid (Rt.add_back hx)
  have HL := Lib.hid hl
  have HZ := Lib.hid hz
  have HR := Lib.hid hr
  have HS := Lib.hid (Rt.sum_three hx hl)
  clear hx hl hz hr
  have hc : (h != 0) = true ∨ ((h != 0) = false ∧ (i != 0) = true) ∨ ((h != 0) = false ∧ (i != 0) = false ∧ j = 0 ∧ l = r ∧ m = s) := by
    cases h1 : (h != 0) <;> cases h2 : (i != 0) <;> simp [h1, h2] at ht ⊢
    exact ht
  clear ht
  rcases hc with h1 | ⟨h1, h2⟩ | ⟨h1, h2, rfl, rfl, rfl⟩
  all_goals
    go_enter Try.func5, Try.ntmps5
    go_wp2_with fail
    refine (head_any _).mono ?_; rintro e w1 ⟨rfl, hb1⟩
    have A_1 := (((At2.new _ _ _ _).alloc _).alloc _).below hb1
    have B_1 := At2.at (w.heap.size + 1) (((At2.new _ _ _ _).alloc _).below hb1) (by simp only [World.size_alloc])
    have C_1 := At2.at (w.heap.size + 1 + 1) ((At2.new _ _ _ _).below hb1) (by simp only [World.size_alloc])
    have B1 := ((((Below.refl w.heap.size w).alloc (Nat.le_refl _) _).alloc (by have := Nat.le_refl w.heap.size; simp <;> omega) _).alloc (by have := Nat.le_refl w.heap.size; simp <;> omega) _).trans (hb1.mono (by simp <;> omega))
    clear hb1
    have l_A := A_1.lt; have c0_A := A_1.c0; have c1_A := A_1.c1
    have l_B := B_1.lt; have c0_B := B_1.c0; have c1_B := B_1.c1
    go_wp2_with fail
    refine (add_is _ _ _ _ _ _ _ HX.out _).mono ?_; rintro e w2 ⟨rfl, hb2⟩
    have A_2 := A_1.below hb2
    have B_2 := B_1.below hb2
    have C_2 := C_1.below hb2
    have B2 := B1.trans (hb2.mono B1.size)
    clear A_1 B_1 C_1 hb2 B1 l_A c0_A c1_A l_B c0_B c1_B
    have l_A := A_2.lt; have c0_A := A_2.c0; have c1_A := A_2.c1
    have l_B := B_2.lt; have c0_B := B_2.c0; have c1_B := B_2.c1
    go_wp2_with fail
    refine (add_is _ _ _ _ _ _ _ HY.out _).mono ?_; rintro e w3 ⟨rfl, hb3⟩
    have A_3 := (A_2.alloc _).below hb3
    have B_3 := (B_2.alloc _).below hb3
    have C_3 := (C_2.alloc _).below hb3
    have X_3 := (At2.new _ _ _ _).below hb3
    have B3 := (B2.alloc (by have := B2.size; simp <;> omega) _).trans (hb3.mono (by have := B2.size; simp <;> omega))
    clear A_2 B_2 C_2 hb3 B2 l_A c0_A c1_A l_B c0_B c1_B
    have l_A := A_3.lt; have c0_A := A_3.c0; have c1_A := A_3.c1
    have l_B := B_3.lt; have c0_B := B_3.c0; have c1_B := B_3.c1
    have l_C := C_3.lt; have c0_C := C_3.c0; have c1_C := C_3.c1
    have l_X := X_3.lt; have c0_X := X_3.c0; have c1_X := X_3.c1
    go_wp2_with fail
    refine (sub_is _ _ _ _ _ _ _ HB.out _).mono ?_; rintro e w4 ⟨rfl, hb4⟩
    have A_4 := (A_3.alloc _).below hb4
    have B_4 := (B_3.alloc _).below hb4
    have C_4 := (C_3.alloc _).below hb4
    have X_4 := (X_3.alloc _).below hb4
    have Y_4 := (At2.new _ _ _ _).below hb4
    have B4 := (B3.alloc (by have := B3.size; simp <;> omega) _).trans (hb4.mono (by have := B3.size; simp <;> omega))
    clear A_3 B_3 C_3 X_3 hb4 B3 l_A c0_A c1_A l_B c0_B c1_B l_C c0_C c1_C l_X c0_X c1_X
    have l_A := A_4.lt; have c0_A := A_4.c0; have c1_A := A_4.c1
    have l_B := B_4.lt; have c0_B := B_4.c0; have c1_B := B_4.c1
    have l_C := C_4.lt; have c0_C := C_4.c0; have c1_C := C_4.c1
    have l_X := X_4.lt; have c0_X := X_4.c0; have c1_X := X_4.c1
    go_wp2_with fail
    refine (add_is _ _ _ _ _ _ _ HL.out _).mono ?_; rintro e w5 ⟨rfl, hb5⟩
    have A_5 := (A_4.alloc _).below hb5
    have B_5 := (B_4.alloc _).below hb5
    have C_5 := (C_4.alloc _).below hb5
    have X_5 := (X_4.alloc _).below hb5
    have Y_5 := (Y_4.alloc _).below hb5
    have K_5 := (At2.new _ _ _ _).below hb5
    have B5 := (B4.alloc (by have := B4.size; simp <;> omega) _).trans (hb5.mono (by have := B4.size; simp <;> omega))
    clear A_4 B_4 C_4 X_4 Y_4 hb5 B4 l_A c0_A c1_A l_B c0_B c1_B l_C c0_C c1_C l_X c0_X c1_X
    have l_A := A_5.lt; have c0_A := A_5.c0; have c1_A := A_5.c1
    have l_B := B_5.lt; have c0_B := B_5.c0; have c1_B := B_5.c1
    have l_C := C_5.lt; have c0_C := C_5.c0; have c1_C := C_5.c1
    have l_X := X_5.lt; have c0_X := X_5.c0; have c1_X := X_5.c1
    have l_K := K_5.lt; have c0_K := K_5.c0; have c1_K := K_5.c1
    go_wp2_with fail
    refine (add_is _ _ _ _ _ _ _ HZ.out _).mono ?_; rintro e w6 ⟨rfl, hb6⟩
    have A_6 := (A_5.alloc _).below hb6
    have B_6 := (B_5.alloc _).below hb6
    have C_6 := (C_5.alloc _).below hb6
    have X_6 := (X_5.alloc _).below hb6
    have Y_6 := (Y_5.alloc _).below hb6
    have K_6 := (K_5.alloc _).below hb6
    have L_6 := (At2.new _ _ _ _).below hb6
    have B6 := (B5.alloc (by have := B5.size; simp <;> omega) _).trans (hb6.mono (by have := B5.size; simp <;> omega))
    clear A_5 B_5 C_5 X_5 Y_5 K_5 hb6 B5 l_A c0_A c1_A l_B c0_B c1_B l_C c0_C c1_C l_X c0_X c1_X l_K c0_K c1_K
    have l_A := A_6.lt; have c0_A := A_6.c0; have c1_A := A_6.c1
    have l_B := B_6.lt; have c0_B := B_6.c0; have c1_B := B_6.c1
    have l_C := C_6.lt; have c0_C := C_6.c0; have c1_C := C_6.c1
    have l_X := X_6.lt; have c0_X := X_6.c0; have c1_X := X_6.c1
    have l_K := K_6.lt; have c0_K := K_6.c0; have c1_K := K_6.c1
    have l_L := L_6.lt; have c0_L := L_6.c0; have c1_L := L_6.c1
    go_wp2_with fail
    refine (add_is _ _ _ _ _ _ _ HR.out _).mono ?_; rintro e w7 ⟨rfl, hb7⟩
    have A_7 := (A_6.alloc _).below hb7
    have B_7 := (B_6.alloc _).below hb7
    have C_7 := (C_6.alloc _).below hb7
    have X_7 := (X_6.alloc _).below hb7
    have Y_7 := (Y_6.alloc _).below hb7
    have K_7 := (K_6.alloc _).below hb7
    have L_7 := (L_6.alloc _).below hb7
    have Z_7 := (At2.new _ _ _ _).below hb7
    have B7 := (B6.alloc (by have := B6.size; simp <;> omega) _).trans (hb7.mono (by have := B6.size; simp <;> omega))
    clear A_6 B_6 C_6 X_6 Y_6 K_6 L_6 hb7 B6 l_A c0_A c1_A l_B c0_B c1_B l_C c0_C c1_C l_X c0_X c1_X l_K c0_K c1_K l_L c0_L c1_L
    have l_A := A_7.lt; have c0_A := A_7.c0; have c1_A := A_7.c1
    have l_B := B_7.lt; have c0_B := B_7.c0; have c1_B := B_7.c1
    have l_C := C_7.lt; have c0_C := C_7.c0; have c1_C := C_7.c1
    have l_K := K_7.lt; have c0_K := K_7.c0; have c1_K := K_7.c1
    have l_L := L_7.lt; have c0_L := L_7.c0; have c1_L := L_7.c1
    have l_Z := Z_7.lt; have c0_Z := Z_7.c0; have c1_Z := Z_7.c1
    go_wp2_with fail
    refine (sum_is _ _ _ _ _ HS.out (by unfold maxLen; simp) _ (SliceIs.new3 _ _ (by simp) _ _ _ _ _ _ _)).mono ?_; rintro e w8 ⟨rfl, hb8⟩
    have A_8 := ((A_7.alloc _).alloc _).below hb8
    have B_8 := ((B_7.alloc _).alloc _).below hb8
    have C_8 := ((C_7.alloc _).alloc _).below hb8
    have X_8 := ((X_7.alloc _).alloc _).below hb8
    have Y_8 := ((Y_7.alloc _).alloc _).below hb8
    have K_8 := ((K_7.alloc _).alloc _).below hb8
    have L_8 := ((L_7.alloc _).alloc _).below hb8
    have Z_8 := ((Z_7.alloc _).alloc _).below hb8
    have R_8 := ((At2.new _ _ _ _).alloc _).below hb8
    have B8 := ((B7.alloc (by have := B7.size; simp <;> omega) _).alloc (by have := B7.size; simp <;> omega) _).trans (hb8.mono (by have := B7.size; simp <;> omega))
    clear A_7 B_7 C_7 X_7 Y_7 K_7 L_7 Z_7 hb8 B7 l_A c0_A c1_A l_B c0_B c1_B l_C c0_C c1_C l_K c0_K c1_K l_L c0_L c1_L l_Z c0_Z c1_Z
    have l_A := A_8.lt; have c0_A := A_8.c0; have c1_A := A_8.c1
    have l_K := K_8.lt; have c0_K := K_8.c0; have c1_K := K_8.c1
    have l_L := L_8.lt; have c0_L := L_8.c0; have c1_L := L_8.c1
    have l_R := R_8.lt; have c0_R := R_8.c0; have c1_R := R_8.c1
    go_wp2_with fail
    go_ret
    exact ⟨rfl, (B8.alloc B8.size _)⟩

theorem ratioSums_walk (a b c d e f : Int) (w : World) :
    Calls Try.prog 5 #[.agg #[.int .i64 a, .int .i64 b], .agg #[.int .i64 c, .int .i64 d], .agg #[.int .i64 e, .int .i64 f]] w fun e w' => e = .returned (.bool true) ∧ Below w.heap.size w w' := by
  obtain ⟨x, y, E, hx⟩ : ∃ x y E, Rt.addR a b c d = (x, y, E) := ⟨_, _, _, rfl⟩
  by_cases hE : E = 0
  · subst hE
    obtain ⟨l, m, h, hl⟩ : ∃ l m h, Rt.addR x y e f = (l, m, h) := ⟨_, _, _, rfl⟩
    obtain ⟨z, u, i, hz⟩ : ∃ x y E, Rt.addR c d e f = (x, y, E) := ⟨_, _, _, rfl⟩
    obtain ⟨r, s, j, hr⟩ : ∃ x y E, Rt.addR a b z u = (x, y, E) := ⟨_, _, _, rfl⟩
    refine sums_ok a b c d e f x y l m h z u i r s j w hx hl hz hr ?_
    by_cases h1 : h = 0
    · by_cases h2 : i = 0
      · subst h1 h2
        have := Rt.add_assoc hx hl hz
        rw [this] at hr
        simp only [Prod.mk.injEq] at hr
        obtain ⟨rfl, rfl, rfl⟩ := hr
        simp
      · simp [h2]
    · simp [h1]
  · obtain ⟨e1, e2, e3⟩ := Rt.add_err hx hE
    subst e1 e2
    rcases e3 with ⟨rfl, _, _⟩ | ⟨rfl, e3⟩
    · exact sums_err3 a b c d e f w hx
    · refine sums_err1 a b c d e f w hx ?_
      rcases e3 with e3 | e3
      · exact e3
      · refine Bool.eq_false_iff.2 fun hv => ?_
        simp only [Bool.and_eq_true] at hv
        have l1 := Rt.vld_lim hv.1
        have l2 := Rt.vld_lim hv.2
        exact Int.mul_ne_zero (show b ≠ 0 by omega) (show d ≠ 0 by omega) e3

set_option maxRecDepth 100000 in
theorem ratioSums_lifted (os : Os) (started : os.Started) (H : Type) (enc : TypeId × Value → H) :
    ReturnsInHanded {} Try.checked os 5 .any (Rows.ratioSumsSpec.pre6 enc Try.prog Try.f5 Rows.ratioSumsRow.domain false) (Rows.ratioSumsSpec.post enc Try.prog Try.f5 false true false false) := by
  refine returnsInHanded_of_change (C := Try.checked) own started (by kernel_rfl) Try.func5
    (ChangeSpec.witness6 (enc := enc) (C := Try.checked) false ⟨#[], #[.agg #[.int .i64 0, .int .i64 0], .agg #[.int .i64 0, .int .i64 0], .agg #[.int .i64 0, .int .i64 0]], []⟩ 8 (by kernel_rfl) (by kernel_rfl) (by kernel_rfl) (by kernel_rfl)) ?_
  intro W base args ds gs before hval0 hW _ _
  have hval : ∀ (j : Nat) t v, Try.f5.params[j]? = some t → args[j]? = some v → Value.okWide Try.prog W .any base t v := hval0
  have hW' := hW
  obtain ⟨p, q, hA0, hV, rfl, _, _⟩ := hW
  have hA : DataW.TrodAll enc Try.prog W 0 (fun _ => true) true Try.f5.params.toList args.toList ds p := hA0
  rw [Try.params5] at hA hval
  obtain ⟨v0, vs0, d0, ds0, p0, q0, hargs, rfl, rfl, h0, r0⟩ := trodAll_cons hA
  obtain ⟨v1, vs1, d1, ds1, p1, q1, rfl, rfl, rfl, h1, r1⟩ := trodAll_cons r0
  obtain ⟨v2, vs2, d2, ds2, p2, q2, rfl, rfl, rfl, h2, r2⟩ := trodAll_cons r1
  obtain ⟨rfl, rfl, rfl⟩ := trodAll_nil r2
  obtain rfl : args = #[v0, v1, v2] := by cases args; simp_all
  obtain ⟨rfl, rfl⟩ := trodVars_none hV
  have k0 := h0
  have lt0 : ∀ x ∈ p0, x.block < W.heap.size := by obtain ⟨m, hm⟩ := k0; exact DataW.trod_lt m _ _ _ hm
  have k1 := h1
  have lt1 : ∀ x ∈ p1, x.block < W.heap.size := by obtain ⟨m, hm⟩ := k1; exact DataW.trod_lt m _ _ _ hm
  have k2 := h2
  have lt2 : ∀ x ∈ p2, x.block < W.heap.size := by obtain ⟨m, hm⟩ := k2; exact DataW.trod_lt m _ _ _ hm
  obtain ⟨a0, b0, rfl⟩ := open_rat (hval 0 23 v0 rfl rfl) h0
  obtain ⟨a1, b1, rfl⟩ := open_rat (hval 1 23 v1 rfl rfl) h1
  obtain ⟨a2, b2, rfl⟩ := open_rat (hval 2 23 v2 rfl rfl) h2
  clear hA0 hval0
  refine (ratioSums_walk a0 b0 a1 b1 a2 b2 W).mono fun e W' ⟨he, bel⟩ => ?_
  subst he
  exact ⟨_, rfl, _, _, _, [], _, [], hW', trodAll_mk1 (shut_bool Try.underlying4 _), (trodAll_cons_mk (Below.trod laidOut (by kernel_rfl) (of_decide_eq_true (by kernel_rfl)) k0 bel lt0) (trodAll_cons_mk (Below.trod laidOut (by kernel_rfl) (of_decide_eq_true (by kernel_rfl)) k1 bel lt1) (trodAll_cons_mk (Below.trod laidOut (by kernel_rfl) (of_decide_eq_true (by kernel_rfl)) k2 bel lt2) trodAll_mk0))), rfl, bel.frame _, fun h => by cases h⟩

/-- THE STATEMENT. -/
theorem ratioSums_holds : Rows.RatioSumsSaid :=
  OpenClaim.holds_of_wide 5 Try.f5 rfl rfl rfl rfl rfl rfl rfl ⟨rfl, rfl, rfl, rfl, rfl⟩ rfl rfl rfl rfl rfl (by kernel_rfl) Try.func5 (by kernel_rfl)
    (of_decide_eq_true (by kernel_rfl)) (by unfold Func.isWrapper; first | (rw [if_pos (by decide +kernel)]; kernel_rfl) | (rw [if_neg (by decide +kernel)]; exact ⟨rfl, rfl⟩))
    (fun os started H enc _ => ratioSums_lifted os started H enc)

end Go.Proofs.Ytmcjgplinacdaaa
