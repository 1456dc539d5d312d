/-
  The order of a product plays no part; 1 changes nothing, 0 gives 0; what is multiplied and divided again is as it was; and a product with a sum is the sum of the products: the law RatioProducts returns true for any three ratios, valid or not, and leaves them as they were.
  Conditions: none.
-/
import Derived.Test.YtmcjgplinacdaaaHead
import Derived.Test.YtmcjgplinacdaaaRops
import Derived.Test.YtmcjgplinacdaaaOpen
import Derived.Test.YtmcjgplinacdaaaPure
import Derived.Deep.RegionHeld3
import Derived.Deep.DeepCutAuto
namespace Go.Proofs.Ytmcjgplinacdaaa
open Go.ChangeShapes Go.WideShapes Go.ChangeAt Go.RowKit

set_option maxHeartbeats 1600000 in
theorem products_bad (a b c d e f : Int) (w : World) (hv : (Rt.vld a b && (Rt.vld c d && Rt.vld e f)) = false) :
    Calls Try.prog 6 #[.agg #[.int .i64 a, .int .i64 b], .agg #[.int .i64 c, .int .i64 d], .agg #[.int .i64 e, .int .i64 f]] w fun e w' => e = .returned (.bool true) ∧ Below w.heap.size w w' := by
  by_cases h1 : Rt.vld a b = true
  · by_cases h2 : Rt.vld c d = true
    · have h3 : Rt.vld e f = false := by rw [h1, h2] at hv; simpa using hv
      have V1 := Lib.hid h1
      have V2 := Lib.hid h2
      have V3 := Lib.hid h3
      clear h1 h2 h3 hv
      go_enter Try.func6, Try.ntmps6
      go_wp2_with fail
      refine (head_any _).mono ?_; rintro e w1 ⟨rfl, hb1⟩
      have A_1 := (((At2.new _ _ _ _).alloc _).alloc _).below hb1
      have B_1 := At2.at (w.heap.size + 1) (((At2.new _ _ _ _).alloc _).below hb1) (by simp only [World.size_alloc])
      have C_1 := At2.at (w.heap.size + 1 + 1) ((At2.new _ _ _ _).below hb1) (by simp only [World.size_alloc])
      have B1 := ((((Below.refl w.heap.size w).alloc (Nat.le_refl _) _).alloc (by have := (Below.refl w.heap.size w).size; simp <;> omega) _).alloc (by have := (Below.refl w.heap.size w).size; simp <;> omega) _).trans (hb1.mono (by simp <;> omega))
      clear hb1
      have l_A := A_1.lt; have c0_A := A_1.c0; have c1_A := A_1.c1
      go_wp2_with fail
      refine (rvalid_is _ _ _ V1.out _).mono ?_; rintro e w2 ⟨rfl, hb2⟩
      have A_2 := A_1.below hb2
      have B_2 := B_1.below hb2
      have C_2 := C_1.below hb2
      have B2 := B1.trans (hb2.mono B1.size)
      clear A_1 B_1 C_1 hb2 B1 l_A c0_A c1_A
      have l_B := B_2.lt; have c0_B := B_2.c0; have c1_B := B_2.c1
      go_wp2_with fail
      refine (rvalid_is _ _ _ V2.out _).mono ?_; rintro e w3 ⟨rfl, hb3⟩
      have A_3 := A_2.below hb3
      have B_3 := B_2.below hb3
      have C_3 := C_2.below hb3
      have B3 := B2.trans (hb3.mono B2.size)
      clear A_2 B_2 C_2 hb3 B2 l_B c0_B c1_B
      have l_C := C_3.lt; have c0_C := C_3.c0; have c1_C := C_3.c1
      go_wp2_with fail
      refine (rvalid_is _ _ _ V3.out _).mono ?_; rintro e w4 ⟨rfl, hb4⟩
      have A_4 := A_3.below hb4
      have B_4 := B_3.below hb4
      have C_4 := C_3.below hb4
      have B4 := B3.trans (hb4.mono B3.size)
      clear A_3 B_3 C_3 hb4 B3 l_C c0_C c1_C
      go_wp2_with fail
      go_ret
      exact ⟨rfl, B4⟩
    · have h2' : Rt.vld c d = false := by simpa using h2
      have V1 := Lib.hid h1
      have V2 := Lib.hid h2'
      clear h1 h2 h2' hv
      go_enter Try.func6, Try.ntmps6
      go_wp2_with fail
      refine (head_any _).mono ?_; rintro e w1 ⟨rfl, hb1⟩
      have A_1 := (((At2.new _ _ _ _).alloc _).alloc _).below hb1
      have B_1 := At2.at (w.heap.size + 1) (((At2.new _ _ _ _).alloc _).below hb1) (by simp only [World.size_alloc])
      have C_1 := At2.at (w.heap.size + 1 + 1) ((At2.new _ _ _ _).below hb1) (by simp only [World.size_alloc])
      have B1 := ((((Below.refl w.heap.size w).alloc (Nat.le_refl _) _).alloc (by have := (Below.refl w.heap.size w).size; simp <;> omega) _).alloc (by have := (Below.refl w.heap.size w).size; simp <;> omega) _).trans (hb1.mono (by simp <;> omega))
      clear hb1
      have l_A := A_1.lt; have c0_A := A_1.c0; have c1_A := A_1.c1
      go_wp2_with fail
      refine (rvalid_is _ _ _ V1.out _).mono ?_; rintro e w2 ⟨rfl, hb2⟩
      have A_2 := A_1.below hb2
      have B_2 := B_1.below hb2
      have C_2 := C_1.below hb2
      have B2 := B1.trans (hb2.mono B1.size)
      clear A_1 B_1 C_1 hb2 B1 l_A c0_A c1_A
      have l_B := B_2.lt; have c0_B := B_2.c0; have c1_B := B_2.c1
      go_wp2_with fail
      refine (rvalid_is _ _ _ V2.out _).mono ?_; rintro e w3 ⟨rfl, hb3⟩
      have A_3 := A_2.below hb3
      have B_3 := B_2.below hb3
      have C_3 := C_2.below hb3
      have B3 := B2.trans (hb3.mono B2.size)
      clear A_2 B_2 C_2 hb3 B2 l_B c0_B c1_B
      go_wp2_with fail
      go_ret
      exact ⟨rfl, B3⟩
  · have h1' : Rt.vld a b = false := by simpa using h1
    have V1 := Lib.hid h1'
    clear h1 h1' hv
    go_enter Try.func6, Try.ntmps6
    go_wp2_with fail
    refine (head_any _).mono ?_; rintro e w1 ⟨rfl, hb1⟩
    have A_1 := (((At2.new _ _ _ _).alloc _).alloc _).below hb1
    have B_1 := At2.at (w.heap.size + 1) (((At2.new _ _ _ _).alloc _).below hb1) (by simp only [World.size_alloc])
    have C_1 := At2.at (w.heap.size + 1 + 1) ((At2.new _ _ _ _).below hb1) (by simp only [World.size_alloc])
    have B1 := ((((Below.refl w.heap.size w).alloc (Nat.le_refl _) _).alloc (by have := (Below.refl w.heap.size w).size; simp <;> omega) _).alloc (by have := (Below.refl w.heap.size w).size; simp <;> omega) _).trans (hb1.mono (by simp <;> omega))
    clear hb1
    have l_A := A_1.lt; have c0_A := A_1.c0; have c1_A := A_1.c1
    go_wp2_with fail
    refine (rvalid_is _ _ _ V1.out _).mono ?_; rintro e w2 ⟨rfl, hb2⟩
    have A_2 := A_1.below hb2
    have B_2 := B_1.below hb2
    have C_2 := C_1.below hb2
    have B2 := B1.trans (hb2.mono B1.size)
    clear A_1 B_1 C_1 hb2 B1 l_A c0_A c1_A
    go_wp2_with fail
    go_ret
    exact ⟨rfl, B2⟩

set_option maxRecDepth 100000 in
set_option maxHeartbeats 6400000 in
theorem products_ok (a b c d e f x y E s t i z u j p q k r v l : Int) (w : World) (h1 : Rt.vld a b = true) (h2 : Rt.vld c d = true) (h3 : Rt.vld e f = true)
    (hx : Rt.mulR a b c d = (x, y, E)) (hs : Rt.addR c d e f = (s, t, i)) (hz : Rt.mulR a b e f = (z, u, j)) (hp : Rt.mulR a b s t = (p, q, k)) (hr : Rt.addR x y z u = (r, v, l))
    (hback : E = 0 → c ≠ 0 → Rt.divR x y c d = (a, b, 0)) (hd : E = 0 → i = 0 → j = 0 → k = l ∧ p = r ∧ q = v) :
    Calls Try.prog 6 #[.agg #[.int .i64 a, .int .i64 b], .agg #[.int .i64 c, .int .i64 d], .agg #[.int .i64 e, .int .i64 f]] w fun e w' => e = .returned (.bool true) ∧ Below w.heap.size w w' := by
  have V1 := Lib.hid h1
  have V2 := Lib.hid h2
  have V3 := Lib.hid h3
  have HX := Lib.hid hx
  have HY := Lib.hid ((Rt.mul_comm c d a b).trans hx)
  have HO := Lib.hid (Rt.mul_one h1)
  have HN := Lib.hid (Rt.mul_zero h1)
  have HS := Lib.hid hs
  have HZ := Lib.hid hz
  have HP := Lib.hid hp
  have HR := Lib.hid hr
  clear h1 h2 h3 hx hs hz hp hr
  have hcase : ((E != 0) = true ∧ (E == 0) = false) ∨ (E = 0 ∧ c = 0 ∧ (i != 0) = true) ∨ (E = 0 ∧ c = 0 ∧ i = 0 ∧ (j != 0) = true) ∨ (E = 0 ∧ c = 0 ∧ i = 0 ∧ j = 0 ∧ k = l ∧ p = r ∧ q = v) ∨
      (E = 0 ∧ (c != 0) = true ∧ Rt.divR x y c d = (a, b, 0) ∧ (i != 0) = true) ∨ (E = 0 ∧ (c != 0) = true ∧ Rt.divR x y c d = (a, b, 0) ∧ i = 0 ∧ (j != 0) = true) ∨ (E = 0 ∧ (c != 0) = true ∧ Rt.divR x y c d = (a, b, 0) ∧ i = 0 ∧ j = 0 ∧ k = l ∧ p = r ∧ q = v) := by
    by_cases hE : E = 0
    · by_cases hc : c = 0
      · by_cases hi : i = 0
        · by_cases hj : j = 0
          · have := hd hE hi hj; simp [hE, hc, hi, hj, this]
          · simp [hE, hc, hi, hj]
        · simp [hE, hc, hi]
      · have hb := hback hE hc
        by_cases hi : i = 0
        · by_cases hj : j = 0
          · have := hd hE hi hj; simp [hE, hc, hi, hj, this, hb]
          · simp [hE, hc, hi, hj, hb]
        · simp [hE, hc, hi, hb]
    · simp [hE]
  have HC := Lib.hid hcase
  clear hcase hd hback
  go_enter Try.func6, Try.ntmps6
  go_wp2_with fail
  refine (head_any _).mono ?_; rintro e w1 ⟨rfl, hb1⟩
  have A_1 := (((At2.new _ _ _ _).alloc _).alloc _).below hb1
  have B_1 := At2.at (w.heap.size + 1) (((At2.new _ _ _ _).alloc _).below hb1) (by simp only [World.size_alloc])
  have C_1 := At2.at (w.heap.size + 1 + 1) ((At2.new _ _ _ _).below hb1) (by simp only [World.size_alloc])
  have B1 := ((((Below.refl w.heap.size w).alloc (Nat.le_refl _) _).alloc (by have := (Below.refl w.heap.size w).size; simp <;> omega) _).alloc (by have := (Below.refl w.heap.size w).size; simp <;> omega) _).trans (hb1.mono (by simp <;> omega))
  clear hb1
  have l_A := A_1.lt; have c0_A := A_1.c0; have c1_A := A_1.c1
  go_wp2_with fail
  refine (rvalid_is _ _ _ V1.out _).mono ?_; rintro e w2 ⟨rfl, hb2⟩
  have A_2 := A_1.below hb2
  have B_2 := B_1.below hb2
  have C_2 := C_1.below hb2
  have B2 := B1.trans (hb2.mono B1.size)
  clear A_1 B_1 C_1 hb2 B1 l_A c0_A c1_A
  have l_B := B_2.lt; have c0_B := B_2.c0; have c1_B := B_2.c1
  go_wp2_with fail
  refine (rvalid_is _ _ _ V2.out _).mono ?_; rintro e w3 ⟨rfl, hb3⟩
  have A_3 := A_2.below hb3
  have B_3 := B_2.below hb3
  have C_3 := C_2.below hb3
  have B3 := B2.trans (hb3.mono B2.size)
  clear A_2 B_2 C_2 hb3 B2 l_B c0_B c1_B
  have l_C := C_3.lt; have c0_C := C_3.c0; have c1_C := C_3.c1
  go_wp2_with fail
  refine (rvalid_is _ _ _ V3.out _).mono ?_; rintro e w4 ⟨rfl, hb4⟩
  have A_4 := A_3.below hb4
  have B_4 := B_3.below hb4
  have C_4 := C_3.below hb4
  have B4 := B3.trans (hb4.mono B3.size)
  clear A_3 B_3 C_3 hb4 B3 l_C c0_C c1_C
  have l_A := A_4.lt; have c0_A := A_4.c0; have c1_A := A_4.c1
  have l_B := B_4.lt; have c0_B := B_4.c0; have c1_B := B_4.c1
  go_wp2_with fail
  refine (mul_is _ _ _ _ _ _ _ HX.out _).mono ?_; rintro e w5 ⟨rfl, hb5⟩
  have A_5 := A_4.below hb5
  have B_5 := B_4.below hb5
  have C_5 := C_4.below hb5
  have B5 := B4.trans (hb5.mono B4.size)
  clear A_4 B_4 C_4 hb5 B4 l_A c0_A c1_A l_B c0_B c1_B
  have l_A := A_5.lt; have c0_A := A_5.c0; have c1_A := A_5.c1
  have l_B := B_5.lt; have c0_B := B_5.c0; have c1_B := B_5.c1
  go_wp2_with fail
  refine (mul_is _ _ _ _ _ _ _ HY.out _).mono ?_; rintro e w6 ⟨rfl, hb6⟩
  have A_6 := (A_5.alloc _).below hb6
  have B_6 := (B_5.alloc _).below hb6
  have C_6 := (C_5.alloc _).below hb6
  have X_6 := (At2.new _ _ _ _).below hb6
  have B6 := (B5.alloc (by have := B5.size; simp <;> omega) _).trans (hb6.mono (by have := B5.size; simp <;> omega))
  clear A_5 B_5 C_5 hb6 B5 l_A c0_A c1_A l_B c0_B c1_B
  have l_A := A_6.lt; have c0_A := A_6.c0; have c1_A := A_6.c1
  go_wp2_with fail
  have A_wp := A_6.alloc (.cells #[.int .i64 (x), .int .i64 (y)] 23)
  have B_wp := B_6.alloc (.cells #[.int .i64 (x), .int .i64 (y)] 23)
  have C_wp := C_6.alloc (.cells #[.int .i64 (x), .int .i64 (y)] 23)
  have X_wp := X_6.alloc (.cells #[.int .i64 (x), .int .i64 (y)] 23)
  have Y_wp := At2.new w6 (x) (y) 23
  have Z_wp := B6.alloc B6.size (.cells #[.int .i64 (x), .int .i64 (y)] 23)
  clear l_A c0_A c1_A B6 A_6 B_6 C_6 X_6
  generalize w6.alloc (.cells #[.int .i64 (x), .int .i64 (y)] 23) = wp at *
  have c0 := A_wp.c0; have c1 := A_wp.c1; have rfl0 := Below.refl wp.heap.size wp; have lA := A_wp.lt
  go_cut [12, 13] (fun sp se wc => se = .int .i64 0 ∧ ∃ g : Nat, sp = .pointer (some ⟨g, 0, none⟩) ∧ At2 wc g (a) (b) ∧ Below wp.heap.size wp wc)
  case first =>
    go_region_held3 (fun w' => Below wp.heap.size wp w' ∧ w'.cell? ⟨w.heap.size, 0, none⟩ = some (.int .i64 a) ∧ w'.cell? ⟨w.heap.size, 1, none⟩ = some (.int .i64 b))
      ((go_split_ands; refine ⟨?_, ?_, ?_⟩; (first | (with_reducible assumption) | (with_reducible exact Below.drew (Below.refl _ _)) | (with_reducible exact Below.drew (Below.alloc (Below.refl _ _) (Nat.le_refl _) _)) | ((with_reducible refine Below.alloc ?_ ?_ _); assumption; (apply Below.size; assumption)) | ((with_reducible refine Below.setCell (Below.setCell ?_ ?_ _) ?_ _); assumption; (simp <;> omega); (simp <;> omega))); all_goals (first | (with_reducible assumption) | ((with_reducible refine keep_alloc ?_ _); assumption) | (exact keep_alloc c0 _) | (exact keep_alloc c1 _) | go_simp)))
      ((first | (go_at_call 29; refine (rat_any _ _ _).mono ?_; rintro e wr ⟨rfl, hbr⟩; go_split_ands; have hbcr : Below wp.heap.size wp wr := Below.trans (by first | assumption | exact Below.drew (Below.refl _ _) | exact Below.drew (Below.alloc (Below.refl _ _) (Nat.le_refl _) _)) (hbr.mono (Below.size (by first | assumption | exact Below.drew (Below.refl _ _) | exact Below.drew (Below.alloc (Below.refl _ _) (Nat.le_refl _) _)))); have hpr := keep_cell (p := ⟨w.heap.size, 0, none⟩) (v := .int .i64 a) (by first | assumption | go_simp | exact keep_alloc c0 _) hbr; have hqr := keep_cell (p := ⟨w.heap.size, 1, none⟩) (v := .int .i64 b) (by first | assumption | go_simp | exact keep_alloc c1 _) hbr; obtain ⟨hcr, hfr⟩ := bcell hbr; have hzr := hbr.size; try simp at hzr; try simp only [Nat.add_one_le_iff] at hzr) | (go_at_call 19; refine (mul_is _ _ _ _ _ _ _ HO.out _).mono ?_; rintro e wm ⟨rfl, hbm⟩; go_split_ands; have hbcm : Below wp.heap.size wp wm := Below.trans (by first | assumption | exact Below.drew (Below.refl _ _) | exact Below.drew (Below.alloc (Below.refl _ _) (Nat.le_refl _) _)) (hbm.mono (Below.size (by first | assumption | exact Below.drew (Below.refl _ _) | exact Below.drew (Below.alloc (Below.refl _ _) (Nat.le_refl _) _)))); have hpm := keep_cell (p := ⟨w.heap.size, 0, none⟩) (v := .int .i64 a) (by first | assumption | go_simp | exact keep_alloc c0 _) hbm; have hqm := keep_cell (p := ⟨w.heap.size, 1, none⟩) (v := .int .i64 b) (by first | assumption | go_simp | exact keep_alloc c1 _) hbm; obtain ⟨hcm, hfm⟩ := bcell hbm; have hzm := hbm.size; try simp at hzm; try simp only [Nat.add_one_le_iff] at hzm)))
    all_goals
      go_split_ands
      go_wp2_with fail
      go_meet
      refine ⟨rfl, _, rfl, ⟨?_, ?_, ?_⟩, ?_⟩
      · first | (simp; done) | (simp; omega)
      · go_simp
      · go_simp
      · assumption
  obtain ⟨rfl, g6, rfl, hO, hBO⟩ := hcut
  clear c0 c1 rfl0 lA
  generalize wc = wq6 at *
  have A_q6 := A_wp.below hBO
  have B_q6 := B_wp.below hBO
  have C_q6 := C_wp.below hBO
  have X_q6 := X_wp.below hBO
  have Y_q6 := Y_wp.below hBO
  have Z_q6 := Z_wp.trans (hBO.mono Z_wp.size)
  clear hBO Z_wp A_wp B_wp C_wp X_wp Y_wp
  have O_q6 := hO; clear hO
  go_wp2_with fail
  have A_wo := A_q6
  have B_wo := B_q6
  have C_wo := C_q6
  have X_wo := X_q6
  have Y_wo := Y_q6
  have O_wo := O_q6
  have Z_wo := Z_q6
  clear  Z_q6 A_q6 B_q6 C_q6 X_q6 Y_q6 O_q6
  generalize wq6 = wo at *
  have c0 := A_wo.c0; have c1 := A_wo.c1; have rfl0 := Below.refl wo.heap.size wo; have lA := A_wo.lt
  go_cut [14, 15] (fun sp se wc => se = .int .i64 0 ∧ ∃ g : Nat, sp = .pointer (some ⟨g, 0, none⟩) ∧ At2 wc g (0) (1) ∧ Below wo.heap.size wo wc)
  case first =>
    go_region_held3 (fun w' => Below wo.heap.size wo w' ∧ w'.cell? ⟨w.heap.size, 0, none⟩ = some (.int .i64 a) ∧ w'.cell? ⟨w.heap.size, 1, none⟩ = some (.int .i64 b))
      ((go_split_ands; refine ⟨?_, ?_, ?_⟩; (first | (with_reducible assumption) | (with_reducible exact Below.drew (Below.refl _ _)) | (with_reducible exact Below.drew (Below.alloc (Below.refl _ _) (Nat.le_refl _) _)) | ((with_reducible refine Below.alloc ?_ ?_ _); assumption; (apply Below.size; assumption)) | ((with_reducible refine Below.setCell (Below.setCell ?_ ?_ _) ?_ _); assumption; (simp <;> omega); (simp <;> omega))); all_goals (first | (with_reducible assumption) | ((with_reducible refine keep_alloc ?_ _); assumption) | (exact keep_alloc c0 _) | (exact keep_alloc c1 _) | go_simp)))
      ((first | (go_at_call 29; refine (rat_any _ _ _).mono ?_; rintro e wr ⟨rfl, hbr⟩; go_split_ands; have hbcr : Below wo.heap.size wo wr := Below.trans (by first | assumption | exact Below.drew (Below.refl _ _) | exact Below.drew (Below.alloc (Below.refl _ _) (Nat.le_refl _) _)) (hbr.mono (Below.size (by first | assumption | exact Below.drew (Below.refl _ _) | exact Below.drew (Below.alloc (Below.refl _ _) (Nat.le_refl _) _)))); have hpr := keep_cell (p := ⟨w.heap.size, 0, none⟩) (v := .int .i64 a) (by first | assumption | go_simp | exact keep_alloc c0 _) hbr; have hqr := keep_cell (p := ⟨w.heap.size, 1, none⟩) (v := .int .i64 b) (by first | assumption | go_simp | exact keep_alloc c1 _) hbr; obtain ⟨hcr, hfr⟩ := bcell hbr; have hzr := hbr.size; try simp at hzr; try simp only [Nat.add_one_le_iff] at hzr) | (go_at_call 19; refine (mul_is _ _ _ _ _ _ _ HN.out _).mono ?_; rintro e wm ⟨rfl, hbm⟩; go_split_ands; have hbcm : Below wo.heap.size wo wm := Below.trans (by first | assumption | exact Below.drew (Below.refl _ _) | exact Below.drew (Below.alloc (Below.refl _ _) (Nat.le_refl _) _)) (hbm.mono (Below.size (by first | assumption | exact Below.drew (Below.refl _ _) | exact Below.drew (Below.alloc (Below.refl _ _) (Nat.le_refl _) _)))); have hpm := keep_cell (p := ⟨w.heap.size, 0, none⟩) (v := .int .i64 a) (by first | assumption | go_simp | exact keep_alloc c0 _) hbm; have hqm := keep_cell (p := ⟨w.heap.size, 1, none⟩) (v := .int .i64 b) (by first | assumption | go_simp | exact keep_alloc c1 _) hbm; obtain ⟨hcm, hfm⟩ := bcell hbm; have hzm := hbm.size; try simp at hzm; try simp only [Nat.add_one_le_iff] at hzm)))
    all_goals
      go_split_ands
      go_wp2_with fail
      go_meet
      refine ⟨rfl, _, rfl, ⟨?_, ?_, ?_⟩, ?_⟩
      · first | (simp; done) | (simp; omega)
      · go_simp
      · go_simp
      · assumption
  obtain ⟨rfl, g7, rfl, hO, hBO⟩ := hcut
  clear c0 c1 rfl0 lA
  generalize wc = wq7 at *
  have A_q7 := A_wo.below hBO
  have B_q7 := B_wo.below hBO
  have C_q7 := C_wo.below hBO
  have X_q7 := X_wo.below hBO
  have Y_q7 := Y_wo.below hBO
  have O_q7 := O_wo.below hBO
  have Z_q7 := Z_wo.trans (hBO.mono Z_wo.size)
  clear hBO Z_wo A_wo B_wo C_wo X_wo Y_wo O_wo
  have N_q7 := hO; clear hO
  go_wp2_with fail
  have xa0 := fun x : Ext wq7 => x.cell A_q7.c0
  have xa1 := fun x : Ext wq7 => x.cell A_q7.c1
  have xx0 := fun x : Ext wq7 => x.cell X_q7.c0
  have xx1 := fun x : Ext wq7 => x.cell X_q7.c1
  have xy0 := fun x : Ext wq7 => x.cell Y_q7.c0
  have xy1 := fun x : Ext wq7 => x.cell Y_q7.c1
  have xo0 := fun x : Ext wq7 => x.cell O_q7.c0
  have xo1 := fun x : Ext wq7 => x.cell O_q7.c1
  have xn0 := fun x : Ext wq7 => x.cell N_q7.c0
  have xn1 := fun x : Ext wq7 => x.cell N_q7.c1
  have hne := Ext.there wq7
  refine Ext.region (by kernel_rfl) (by kernel_rfl) ?_
  repeat (go_big_quiet_step ((go_at_call 29; exact Ext.call _ (rat_any _ _ _))))
  refine wpQuiet_nil ?_
  rintro _ ⟨xw, rfl⟩
  clear xa0 xa1 xx0 xx1 xy0 xy1 xo0 xo1 xn0 xn1 hne
  have A_8 := A_q7.below xw.h
  have B_8 := B_q7.below xw.h
  have C_8 := C_q7.below xw.h
  have X_8 := X_q7.below xw.h
  have Z_8 := Z_q7.trans (xw.h.mono Z_q7.size)
  generalize xw.w = w8 at *
  clear xw Z_q7 A_q7 B_q7 C_q7 X_q7 Y_q7 O_q7 N_q7
  rcases HC.out with ⟨hE, hE2⟩ | ⟨rfl, rfl, hi⟩ | ⟨rfl, rfl, rfl, hj⟩ | ⟨rfl, rfl, rfl, rfl, rfl, rfl, rfl⟩ | ⟨rfl, hc, hdv, hi⟩ | ⟨rfl, hc, hdv, rfl, hj⟩ | ⟨rfl, hc, hdv, rfl, rfl, rfl, rfl, rfl⟩
  all_goals clear HC
  · have c0_B := B_8.c0; have c1_B := B_8.c1
    have c0_C := C_8.c0; have c1_C := C_8.c1
    go_wp2_with fail
    refine (add_is _ _ _ _ _ _ _ HS.out _).mono ?_; rintro e w9 ⟨rfl, hb9⟩
    have A_9 := A_8.below hb9
    have B_9 := B_8.below hb9
    have C_9 := C_8.below hb9
    have X_9 := X_8.below hb9
    have B9 := Z_8.trans (hb9.mono Z_8.size)
    clear A_8 B_8 C_8 X_8 hb9 Z_8 c0_B c1_B c0_C c1_C
    have l_A := A_9.lt; have c0_A := A_9.c0; have c1_A := A_9.c1
    have l_C := C_9.lt; have c0_C := C_9.c0; have c1_C := C_9.c1
    go_wp2_with fail
    refine (mul_is _ _ _ _ _ _ _ HZ.out _).mono ?_; rintro e w10 ⟨rfl, hb10⟩
    have A_10 := (A_9.alloc _).below hb10
    have B_10 := (B_9.alloc _).below hb10
    have C_10 := (C_9.alloc _).below hb10
    have X_10 := (X_9.alloc _).below hb10
    have S_10 := (At2.new _ _ _ _).below hb10
    have B10 := (B9.alloc (by have := B9.size; simp <;> omega) _).trans (hb10.mono (by have := B9.size; simp <;> omega))
    clear A_9 B_9 C_9 X_9 hb10 B9 l_A c0_A c1_A l_C c0_C c1_C
    have l_A := A_10.lt; have c0_A := A_10.c0; have c1_A := A_10.c1
    go_wp2_with fail
    go_ret
    exact ⟨rfl, (B10.alloc B10.size _)⟩
  · have c0_B := B_8.c0; have c1_B := B_8.c1
    have c0_C := C_8.c0; have c1_C := C_8.c1
    go_wp2_with fail
    refine (add_is _ _ _ _ _ _ _ HS.out _).mono ?_; rintro e w9 ⟨rfl, hb9⟩
    have A_9 := A_8.below hb9
    have B_9 := B_8.below hb9
    have C_9 := C_8.below hb9
    have X_9 := X_8.below hb9
    have B9 := Z_8.trans (hb9.mono Z_8.size)
    clear A_8 B_8 C_8 X_8 hb9 Z_8 c0_B c1_B c0_C c1_C
    have l_A := A_9.lt; have c0_A := A_9.c0; have c1_A := A_9.c1
    have l_C := C_9.lt; have c0_C := C_9.c0; have c1_C := C_9.c1
    go_wp2_with fail
    refine (mul_is _ _ _ _ _ _ _ HZ.out _).mono ?_; rintro e w10 ⟨rfl, hb10⟩
    have A_10 := (A_9.alloc _).below hb10
    have B_10 := (B_9.alloc _).below hb10
    have C_10 := (C_9.alloc _).below hb10
    have X_10 := (X_9.alloc _).below hb10
    have S_10 := (At2.new _ _ _ _).below hb10
    have B10 := (B9.alloc (by have := B9.size; simp <;> omega) _).trans (hb10.mono (by have := B9.size; simp <;> omega))
    clear A_9 B_9 C_9 X_9 hb10 B9 l_A c0_A c1_A l_C c0_C c1_C
    have l_A := A_10.lt; have c0_A := A_10.c0; have c1_A := A_10.c1
    go_wp2_with fail
    go_ret
    exact ⟨rfl, (B10.alloc B10.size _)⟩
  · have c0_B := B_8.c0; have c1_B := B_8.c1
    have c0_C := C_8.c0; have c1_C := C_8.c1
    go_wp2_with fail
    refine (add_is _ _ _ _ _ _ _ HS.out _).mono ?_; rintro e w9 ⟨rfl, hb9⟩
    have A_9 := A_8.below hb9
    have B_9 := B_8.below hb9
    have C_9 := C_8.below hb9
    have X_9 := X_8.below hb9
    have B9 := Z_8.trans (hb9.mono Z_8.size)
    clear A_8 B_8 C_8 X_8 hb9 Z_8 c0_B c1_B c0_C c1_C
    have l_A := A_9.lt; have c0_A := A_9.c0; have c1_A := A_9.c1
    have l_C := C_9.lt; have c0_C := C_9.c0; have c1_C := C_9.c1
    go_wp2_with fail
    refine (mul_is _ _ _ _ _ _ _ HZ.out _).mono ?_; rintro e w10 ⟨rfl, hb10⟩
    have A_10 := (A_9.alloc _).below hb10
    have B_10 := (B_9.alloc _).below hb10
    have C_10 := (C_9.alloc _).below hb10
    have X_10 := (X_9.alloc _).below hb10
    have S_10 := (At2.new _ _ _ _).below hb10
    have B10 := (B9.alloc (by have := B9.size; simp <;> omega) _).trans (hb10.mono (by have := B9.size; simp <;> omega))
    clear A_9 B_9 C_9 X_9 hb10 B9 l_A c0_A c1_A l_C c0_C c1_C
    have l_A := A_10.lt; have c0_A := A_10.c0; have c1_A := A_10.c1
    go_wp2_with fail
    go_ret
    exact ⟨rfl, (B10.alloc B10.size _)⟩
  · have c0_B := B_8.c0; have c1_B := B_8.c1
    have c0_C := C_8.c0; have c1_C := C_8.c1
    go_wp2_with fail
    refine (add_is _ _ _ _ _ _ _ HS.out _).mono ?_; rintro e w9 ⟨rfl, hb9⟩
    have A_9 := A_8.below hb9
    have B_9 := B_8.below hb9
    have C_9 := C_8.below hb9
    have X_9 := X_8.below hb9
    have B9 := Z_8.trans (hb9.mono Z_8.size)
    clear A_8 B_8 C_8 X_8 hb9 Z_8 c0_B c1_B c0_C c1_C
    have l_A := A_9.lt; have c0_A := A_9.c0; have c1_A := A_9.c1
    have l_C := C_9.lt; have c0_C := C_9.c0; have c1_C := C_9.c1
    go_wp2_with fail
    refine (mul_is _ _ _ _ _ _ _ HZ.out _).mono ?_; rintro e w10 ⟨rfl, hb10⟩
    have A_10 := (A_9.alloc _).below hb10
    have B_10 := (B_9.alloc _).below hb10
    have C_10 := (C_9.alloc _).below hb10
    have X_10 := (X_9.alloc _).below hb10
    have S_10 := (At2.new _ _ _ _).below hb10
    have B10 := (B9.alloc (by have := B9.size; simp <;> omega) _).trans (hb10.mono (by have := B9.size; simp <;> omega))
    clear A_9 B_9 C_9 X_9 hb10 B9 l_A c0_A c1_A l_C c0_C c1_C
    have l_A := A_10.lt; have c0_A := A_10.c0; have c1_A := A_10.c1
    have l_S := S_10.lt; have c0_S := S_10.c0; have c1_S := S_10.c1
    go_wp2_with fail
    refine (mul_is _ _ _ _ _ _ _ HP.out _).mono ?_; rintro e w11 ⟨rfl, hb11⟩
    have A_11 := (A_10.alloc _).below hb11
    have B_11 := (B_10.alloc _).below hb11
    have C_11 := (C_10.alloc _).below hb11
    have X_11 := (X_10.alloc _).below hb11
    have S_11 := (S_10.alloc _).below hb11
    have U_11 := (At2.new _ _ _ _).below hb11
    have B11 := (B10.alloc (by have := B10.size; simp <;> omega) _).trans (hb11.mono (by have := B10.size; simp <;> omega))
    clear A_10 B_10 C_10 X_10 S_10 hb11 B10 l_A c0_A c1_A l_S c0_S c1_S
    have l_X := X_11.lt; have c0_X := X_11.c0; have c1_X := X_11.c1
    have l_U := U_11.lt; have c0_U := U_11.c0; have c1_U := U_11.c1
    go_wp2_with fail
    refine (add_is _ _ _ _ _ _ _ HR.out _).mono ?_; rintro e w12 ⟨rfl, hb12⟩
    have A_12 := (A_11.alloc _).below hb12
    have B_12 := (B_11.alloc _).below hb12
    have C_12 := (C_11.alloc _).below hb12
    have X_12 := (X_11.alloc _).below hb12
    have S_12 := (S_11.alloc _).below hb12
    have U_12 := (U_11.alloc _).below hb12
    have L_12 := (At2.new _ _ _ _).below hb12
    have B12 := (B11.alloc (by have := B11.size; simp <;> omega) _).trans (hb12.mono (by have := B11.size; simp <;> omega))
    clear A_11 B_11 C_11 X_11 S_11 U_11 hb12 B11 l_X c0_X c1_X l_U c0_U c1_U
    have l_L := L_12.lt; have c0_L := L_12.c0; have c1_L := L_12.c1
    go_wp2_with fail
    go_ret
    exact ⟨rfl, (B12.alloc B12.size _)⟩
  · have c0_B := B_8.c0; have c1_B := B_8.c1
    have HB := Lib.hid hdv; clear hdv
    have c0_X := X_8.c0; have c1_X := X_8.c1
    go_wp2_with fail
    refine (div_is _ _ _ _ _ _ _ HB.out _).mono ?_; rintro e w9 ⟨rfl, hb9⟩
    have A_9 := A_8.below hb9
    have B_9 := B_8.below hb9
    have C_9 := C_8.below hb9
    have X_9 := X_8.below hb9
    have B9 := Z_8.trans (hb9.mono Z_8.size)
    clear A_8 B_8 C_8 X_8 hb9 Z_8 c0_B c1_B c0_X c1_X
    have l_A := A_9.lt; have c0_A := A_9.c0; have c1_A := A_9.c1
    have l_B := B_9.lt; have c0_B := B_9.c0; have c1_B := B_9.c1
    have l_C := C_9.lt; have c0_C := C_9.c0; have c1_C := C_9.c1
    go_wp2_with fail
    refine (add_is _ _ _ _ _ _ _ HS.out _).mono ?_; rintro e w10 ⟨rfl, hb10⟩
    have A_10 := (A_9.alloc _).below hb10
    have B_10 := (B_9.alloc _).below hb10
    have C_10 := (C_9.alloc _).below hb10
    have X_10 := (X_9.alloc _).below hb10
    have D_10 := (At2.new _ _ _ _).below hb10
    have B10 := (B9.alloc (by have := B9.size; simp <;> omega) _).trans (hb10.mono (by have := B9.size; simp <;> omega))
    clear A_9 B_9 C_9 X_9 hb10 B9 l_A c0_A c1_A l_B c0_B c1_B l_C c0_C c1_C
    have l_A := A_10.lt; have c0_A := A_10.c0; have c1_A := A_10.c1
    have l_C := C_10.lt; have c0_C := C_10.c0; have c1_C := C_10.c1
    go_wp2_with fail
    refine (mul_is _ _ _ _ _ _ _ HZ.out _).mono ?_; rintro e w11 ⟨rfl, hb11⟩
    have A_11 := (A_10.alloc _).below hb11
    have B_11 := (B_10.alloc _).below hb11
    have C_11 := (C_10.alloc _).below hb11
    have X_11 := (X_10.alloc _).below hb11
    have D_11 := (D_10.alloc _).below hb11
    have S_11 := (At2.new _ _ _ _).below hb11
    have B11 := (B10.alloc (by have := B10.size; simp <;> omega) _).trans (hb11.mono (by have := B10.size; simp <;> omega))
    clear A_10 B_10 C_10 X_10 D_10 hb11 B10 l_A c0_A c1_A l_C c0_C c1_C
    have l_A := A_11.lt; have c0_A := A_11.c0; have c1_A := A_11.c1
    go_wp2_with fail
    go_ret
    exact ⟨rfl, (B11.alloc B11.size _)⟩
  · have c0_B := B_8.c0; have c1_B := B_8.c1
    have HB := Lib.hid hdv; clear hdv
    have c0_X := X_8.c0; have c1_X := X_8.c1
    go_wp2_with fail
    refine (div_is _ _ _ _ _ _ _ HB.out _).mono ?_; rintro e w9 ⟨rfl, hb9⟩
    have A_9 := A_8.below hb9
    have B_9 := B_8.below hb9
    have C_9 := C_8.below hb9
    have X_9 := X_8.below hb9
    have B9 := Z_8.trans (hb9.mono Z_8.size)
    clear A_8 B_8 C_8 X_8 hb9 Z_8 c0_B c1_B c0_X c1_X
    have l_A := A_9.lt; have c0_A := A_9.c0; have c1_A := A_9.c1
    have l_B := B_9.lt; have c0_B := B_9.c0; have c1_B := B_9.c1
    have l_C := C_9.lt; have c0_C := C_9.c0; have c1_C := C_9.c1
    go_wp2_with fail
    refine (add_is _ _ _ _ _ _ _ HS.out _).mono ?_; rintro e w10 ⟨rfl, hb10⟩
    have A_10 := (A_9.alloc _).below hb10
    have B_10 := (B_9.alloc _).below hb10
    have C_10 := (C_9.alloc _).below hb10
    have X_10 := (X_9.alloc _).below hb10
    have D_10 := (At2.new _ _ _ _).below hb10
    have B10 := (B9.alloc (by have := B9.size; simp <;> omega) _).trans (hb10.mono (by have := B9.size; simp <;> omega))
    clear A_9 B_9 C_9 X_9 hb10 B9 l_A c0_A c1_A l_B c0_B c1_B l_C c0_C c1_C
    have l_A := A_10.lt; have c0_A := A_10.c0; have c1_A := A_10.c1
    have l_C := C_10.lt; have c0_C := C_10.c0; have c1_C := C_10.c1
    go_wp2_with fail
    refine (mul_is _ _ _ _ _ _ _ HZ.out _).mono ?_; rintro e w11 ⟨rfl, hb11⟩
    have A_11 := (A_10.alloc _).below hb11
    have B_11 := (B_10.alloc _).below hb11
    have C_11 := (C_10.alloc _).below hb11
    have X_11 := (X_10.alloc _).below hb11
    have D_11 := (D_10.alloc _).below hb11
    have S_11 := (At2.new _ _ _ _).below hb11
    have B11 := (B10.alloc (by have := B10.size; simp <;> omega) _).trans (hb11.mono (by have := B10.size; simp <;> omega))
    clear A_10 B_10 C_10 X_10 D_10 hb11 B10 l_A c0_A c1_A l_C c0_C c1_C
    have l_A := A_11.lt; have c0_A := A_11.c0; have c1_A := A_11.c1
    go_wp2_with fail
    go_ret
    exact ⟨rfl, (B11.alloc B11.size _)⟩
  · have c0_B := B_8.c0; have c1_B := B_8.c1
    have HB := Lib.hid hdv; clear hdv
    have c0_X := X_8.c0; have c1_X := X_8.c1
    go_wp2_with fail
    refine (div_is _ _ _ _ _ _ _ HB.out _).mono ?_; rintro e w9 ⟨rfl, hb9⟩
    have A_9 := A_8.below hb9
    have B_9 := B_8.below hb9
    have C_9 := C_8.below hb9
    have X_9 := X_8.below hb9
    have B9 := Z_8.trans (hb9.mono Z_8.size)
    clear A_8 B_8 C_8 X_8 hb9 Z_8 c0_B c1_B c0_X c1_X
    have l_A := A_9.lt; have c0_A := A_9.c0; have c1_A := A_9.c1
    have l_B := B_9.lt; have c0_B := B_9.c0; have c1_B := B_9.c1
    have l_C := C_9.lt; have c0_C := C_9.c0; have c1_C := C_9.c1
    go_wp2_with fail
    refine (add_is _ _ _ _ _ _ _ HS.out _).mono ?_; rintro e w10 ⟨rfl, hb10⟩
    have A_10 := (A_9.alloc _).below hb10
    have B_10 := (B_9.alloc _).below hb10
    have C_10 := (C_9.alloc _).below hb10
    have X_10 := (X_9.alloc _).below hb10
    have D_10 := (At2.new _ _ _ _).below hb10
    have B10 := (B9.alloc (by have := B9.size; simp <;> omega) _).trans (hb10.mono (by have := B9.size; simp <;> omega))
    clear A_9 B_9 C_9 X_9 hb10 B9 l_A c0_A c1_A l_B c0_B c1_B l_C c0_C c1_C
    have l_A := A_10.lt; have c0_A := A_10.c0; have c1_A := A_10.c1
    have l_C := C_10.lt; have c0_C := C_10.c0; have c1_C := C_10.c1
    go_wp2_with fail
    refine (mul_is _ _ _ _ _ _ _ HZ.out _).mono ?_; rintro e w11 ⟨rfl, hb11⟩
    have A_11 := (A_10.alloc _).below hb11
    have B_11 := (B_10.alloc _).below hb11
    have C_11 := (C_10.alloc _).below hb11
    have X_11 := (X_10.alloc _).below hb11
    have D_11 := (D_10.alloc _).below hb11
    have S_11 := (At2.new _ _ _ _).below hb11
    have B11 := (B10.alloc (by have := B10.size; simp <;> omega) _).trans (hb11.mono (by have := B10.size; simp <;> omega))
    clear A_10 B_10 C_10 X_10 D_10 hb11 B10 l_A c0_A c1_A l_C c0_C c1_C
    have l_A := A_11.lt; have c0_A := A_11.c0; have c1_A := A_11.c1
    have l_S := S_11.lt; have c0_S := S_11.c0; have c1_S := S_11.c1
    go_wp2_with fail
    refine (mul_is _ _ _ _ _ _ _ HP.out _).mono ?_; rintro e w12 ⟨rfl, hb12⟩
    have A_12 := (A_11.alloc _).below hb12
    have B_12 := (B_11.alloc _).below hb12
    have C_12 := (C_11.alloc _).below hb12
    have X_12 := (X_11.alloc _).below hb12
    have D_12 := (D_11.alloc _).below hb12
    have S_12 := (S_11.alloc _).below hb12
    have U_12 := (At2.new _ _ _ _).below hb12
    have B12 := (B11.alloc (by have := B11.size; simp <;> omega) _).trans (hb12.mono (by have := B11.size; simp <;> omega))
    clear A_11 B_11 C_11 X_11 D_11 S_11 hb12 B11 l_A c0_A c1_A l_S c0_S c1_S
    have l_X := X_12.lt; have c0_X := X_12.c0; have c1_X := X_12.c1
    have l_U := U_12.lt; have c0_U := U_12.c0; have c1_U := U_12.c1
    go_wp2_with fail
    refine (add_is _ _ _ _ _ _ _ HR.out _).mono ?_; rintro e w13 ⟨rfl, hb13⟩
    have A_13 := (A_12.alloc _).below hb13
    have B_13 := (B_12.alloc _).below hb13
    have C_13 := (C_12.alloc _).below hb13
    have X_13 := (X_12.alloc _).below hb13
    have D_13 := (D_12.alloc _).below hb13
    have S_13 := (S_12.alloc _).below hb13
    have U_13 := (U_12.alloc _).below hb13
    have L_13 := (At2.new _ _ _ _).below hb13
    have B13 := (B12.alloc (by have := B12.size; simp <;> omega) _).trans (hb13.mono (by have := B12.size; simp <;> omega))
    clear A_12 B_12 C_12 X_12 D_12 S_12 U_12 hb13 B12 l_X c0_X c1_X l_U c0_U c1_U
    have l_L := L_13.lt; have c0_L := L_13.c0; have c1_L := L_13.c1
    go_wp2_with fail
    go_ret
    exact ⟨rfl, (B13.alloc B13.size _)⟩

theorem ratioProducts_walk (a b c d e f : Int) (w : World) :
    Calls Try.prog 6 #[.agg #[.int .i64 a, .int .i64 b], .agg #[.int .i64 c, .int .i64 d], .agg #[.int .i64 e, .int .i64 f]] w fun e w' => e = .returned (.bool true) ∧ Below w.heap.size w w' := by
  by_cases hv : (Rt.vld a b && (Rt.vld c d && Rt.vld e f)) = true
  · simp only [Bool.and_eq_true] at hv
    obtain ⟨h1, h2, h3⟩ := hv
    obtain ⟨x, y, E, hx⟩ : ∃ x y E, Rt.mulR a b c d = (x, y, E) := ⟨_, _, _, rfl⟩
    obtain ⟨s, t, i, hs⟩ : ∃ s t i, Rt.addR c d e f = (s, t, i) := ⟨_, _, _, rfl⟩
    obtain ⟨z, u, j, hz⟩ : ∃ z u j, Rt.mulR a b e f = (z, u, j) := ⟨_, _, _, rfl⟩
    obtain ⟨p, q, k, hp⟩ : ∃ p q k, Rt.mulR a b s t = (p, q, k) := ⟨_, _, _, rfl⟩
    obtain ⟨r, v, l, hr⟩ : ∃ r v l, Rt.addR x y z u = (r, v, l) := ⟨_, _, _, rfl⟩
    refine products_ok a b c d e f x y E s t i z u j p q k r v l w h1 h2 h3 hx hs hz hp hr (fun hE hc => ?_) (fun hE hi hj => ?_)
    · subst hE; exact Rt.mul_back hc hx
    · subst hE hi hj
      have := Rt.mul_add hx hs hz
      rw [hp, hr] at this
      simp only [Prod.mk.injEq] at this
      exact ⟨this.2.2, this.1, this.2.1⟩
  · exact products_bad a b c d e f w (by simpa using hv)

set_option maxRecDepth 100000 in
theorem ratioProducts_lifted (os : Os) (started : os.Started) (H : Type) (enc : TypeId × Value → H) :
    ReturnsInHanded {} Try.checked os 6 .any (Rows.ratioProductsSpec.pre6 enc Try.prog Try.f6 Rows.ratioProductsRow.domain false) (Rows.ratioProductsSpec.post enc Try.prog Try.f6 false true false false) := by
  refine returnsInHanded_of_change (C := Try.checked) own started (by kernel_rfl) Try.func6
    (ChangeSpec.witness6 (enc := enc) (C := Try.checked) false ⟨#[], #[.agg #[.int .i64 0, .int .i64 0], .agg #[.int .i64 0, .int .i64 0], .agg #[.int .i64 0, .int .i64 0]], []⟩ 8 (by kernel_rfl) (by kernel_rfl) (by kernel_rfl) (by kernel_rfl)) ?_
  intro W base args ds gs before hval0 hW _ _
  have hval : ∀ (j : Nat) t v, Try.f6.params[j]? = some t → args[j]? = some v → Value.okWide Try.prog W .any base t v := hval0
  have hW' := hW
  obtain ⟨p, q, hA0, hV, rfl, _, _⟩ := hW
  have hA : DataW.TrodAll enc Try.prog W 0 (fun _ => true) true Try.f6.params.toList args.toList ds p := hA0
  rw [Try.params6] at hA hval
  obtain ⟨v0, vs0, d0, ds0, p0, q0, hargs, rfl, rfl, h0, r0⟩ := trodAll_cons hA
  obtain ⟨v1, vs1, d1, ds1, p1, q1, rfl, rfl, rfl, h1, r1⟩ := trodAll_cons r0
  obtain ⟨v2, vs2, d2, ds2, p2, q2, rfl, rfl, rfl, h2, r2⟩ := trodAll_cons r1
  obtain ⟨rfl, rfl, rfl⟩ := trodAll_nil r2
  obtain rfl : args = #[v0, v1, v2] := by cases args; simp_all
  obtain ⟨rfl, rfl⟩ := trodVars_none hV
  have k0 := h0
  have lt0 : ∀ x ∈ p0, x.block < W.heap.size := by obtain ⟨m, hm⟩ := k0; exact DataW.trod_lt m _ _ _ hm
  have k1 := h1
  have lt1 : ∀ x ∈ p1, x.block < W.heap.size := by obtain ⟨m, hm⟩ := k1; exact DataW.trod_lt m _ _ _ hm
  have k2 := h2
  have lt2 : ∀ x ∈ p2, x.block < W.heap.size := by obtain ⟨m, hm⟩ := k2; exact DataW.trod_lt m _ _ _ hm
  obtain ⟨a0, b0, rfl⟩ := open_rat (hval 0 23 v0 rfl rfl) h0
  obtain ⟨a1, b1, rfl⟩ := open_rat (hval 1 23 v1 rfl rfl) h1
  obtain ⟨a2, b2, rfl⟩ := open_rat (hval 2 23 v2 rfl rfl) h2
  clear hA0 hval0
  refine (ratioProducts_walk a0 b0 a1 b1 a2 b2 W).mono fun e W' ⟨he, bel⟩ => ?_
  subst he
  exact ⟨_, rfl, _, _, _, [], _, [], hW', trodAll_mk1 (shut_bool Try.underlying4 _), (trodAll_cons_mk (Below.trod laidOut (by kernel_rfl) (of_decide_eq_true (by kernel_rfl)) k0 bel lt0) (trodAll_cons_mk (Below.trod laidOut (by kernel_rfl) (of_decide_eq_true (by kernel_rfl)) k1 bel lt1) (trodAll_cons_mk (Below.trod laidOut (by kernel_rfl) (of_decide_eq_true (by kernel_rfl)) k2 bel lt2) trodAll_mk0))), rfl, bel.frame _, fun h => by cases h⟩

/-- THE STATEMENT. -/
theorem ratioProducts_holds : Rows.RatioProductsSaid :=
  OpenClaim.holds_of_wide 6 Try.f6 rfl rfl rfl rfl rfl rfl rfl ⟨rfl, rfl, rfl, rfl, rfl⟩ rfl rfl rfl rfl rfl (by kernel_rfl) Try.func6 (by kernel_rfl)
    (of_decide_eq_true (by kernel_rfl)) (by unfold Func.isWrapper; first | (rw [if_pos (by decide +kernel)]; kernel_rfl) | (rw [if_neg (by decide +kernel)]; exact ⟨rfl, rfl⟩))
    (fun os started H enc _ => ratioProducts_lifted os started H enc)

end Go.Proofs.Ytmcjgplinacdaaa
