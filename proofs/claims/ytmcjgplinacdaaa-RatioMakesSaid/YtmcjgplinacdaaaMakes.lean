/-
  What Make returns is valid, and the same for the same fraction with any factor; a valid ratio is made of its own numbers: the law RatioMakes returns true for any fraction, factor and ratio, and leaves the ratio as it was.
  Conditions: none.
-/
import Derived.Test.YtmcjgplinacdaaaHead
import Derived.Test.YtmcjgplinacdaaaRops
import Derived.Test.YtmcjgplinacdaaaOpen
import Derived.Test.YtmcjgplinacdaaaPure
namespace Go.Proofs.Ytmcjgplinacdaaa
open Go.ChangeShapes Go.WideShapes Go.ChangeAt Go.RowKit

theorem bounds_i32 {n : Int} (h : (Lit.int .i32 n).wf = true) : -2147483648 ≤ n ∧ n ≤ 2147483647 := by
  obtain ⟨x, y⟩ : IntKind.i32.min ≤ n ∧ n ≤ IntKind.i32.max := by simpa [Lit.wf] using h
  rw [show IntKind.i32.min = -2147483648 from by decide +kernel] at x
  rw [show IntKind.i32.max = 2147483647 from by decide +kernel] at y
  exact ⟨x, y⟩
theorem bounds_i16 {n : Int} (h : (Lit.int .i16 n).wf = true) : -32768 ≤ n ∧ n ≤ 32767 := by
  obtain ⟨x, y⟩ : IntKind.i16.min ≤ n ∧ n ≤ IntKind.i16.max := by simpa [Lit.wf] using h
  rw [show IntKind.i16.min = -32768 from by decide +kernel] at x
  rw [show IntKind.i16.max = 32767 from by decide +kernel] at y
  exact ⟨x, y⟩

set_option maxRecDepth 100000 in
set_option maxHeartbeats 3200000 in
theorem makes_ok (n d y a b N D E : Int) (v : Bool) (w : World) (n1 : -2147483648 ≤ n) (n2 : n ≤ 2147483647) (d1 : -2147483648 ≤ d) (d2 : d ≤ 2147483647) (y1 : -32768 ≤ y) (y2 : y ≤ 32767)
    (hv : Rt.vld a b = v) (ho : v = true → Rt.makeR a b = (a, b, 0)) (h1 : Rt.makeR n d = (N, D, E)) (h2 : d ≠ 0 → y ≠ 0 → Rt.makeR (n * y) (d * y) = (N, D, E))
    (he : d ≠ 0 → (E = 0 ∧ Rt.vld N D = true ∧ N * d = D * n) ∨ E = 3) :
    Calls Try.prog 4 #[.int .i32 n, .int .i32 d, .int .i16 y, .agg #[.int .i64 a, .int .i64 b]] w fun e w' => e = .returned (.bool true) ∧ Below w.heap.size w w' := by
  have V := Lib.hid hv
  obtain ⟨p1, p2⟩ := mul_in n y 2147483648 32768 (by omega) (by omega) (by omega) (by omega)
  obtain ⟨p3, p4⟩ := mul_in d y 2147483648 32768 (by omega) (by omega) (by omega) (by omega)
  simp only [Int.reduceMul, Int.reduceNeg] at p1 p2 p3 p4
  clear hv
  by_cases hd : d = 0 ∨ y = 0
  · have hd3 : d = 0 ∨ (d ≠ 0 ∧ y = 0) := by omega
    clear h1 h2 he hd
    cases v
    · rcases hd3 with rfl | ⟨hd, rfl⟩
      · clear ho
        go_enter Try.func4, Try.ntmps4
        go_wp2_with fail
        refine (head_any _).mono ?_; rintro e w1 ⟨rfl, hb1⟩
        have A_1 := (At2.new _ _ _ _).below hb1
        have B1 := ((Below.refl w.heap.size w).alloc (Nat.le_refl _) _).trans (hb1.mono (by simp <;> omega))
        clear hb1
        have l_A := A_1.lt; have c0_A := A_1.c0; have c1_A := A_1.c1
        go_wp2_with fail
        refine (rvalid_is _ _ _ V.out _).mono ?_; rintro e w2 ⟨rfl, hb2⟩
        have A_2 := A_1.below hb2
        have B2 := B1.trans (hb2.mono B1.size)
        clear A_1 hb2 B1 l_A c0_A c1_A
        have l_A := A_2.lt; have c0_A := A_2.c0; have c1_A := A_2.c1
        go_wp2_with fail
        go_ret
        exact ⟨rfl, B2⟩
      · clear ho
        have hdb : (d == 0) = false := by simpa using hd
        go_enter Try.func4, Try.ntmps4
        go_wp2_with fail
        refine (head_any _).mono ?_; rintro e w1 ⟨rfl, hb1⟩
        have A_1 := (At2.new _ _ _ _).below hb1
        have B1 := ((Below.refl w.heap.size w).alloc (Nat.le_refl _) _).trans (hb1.mono (by simp <;> omega))
        clear hb1
        have l_A := A_1.lt; have c0_A := A_1.c0; have c1_A := A_1.c1
        go_wp2_with fail
        refine (rvalid_is _ _ _ V.out _).mono ?_; rintro e w2 ⟨rfl, hb2⟩
        have A_2 := A_1.below hb2
        have B2 := B1.trans (hb2.mono B1.size)
        clear A_1 hb2 B1 l_A c0_A c1_A
        have l_A := A_2.lt; have c0_A := A_2.c0; have c1_A := A_2.c1
        go_wp2_with fail
        go_ret
        exact ⟨rfl, B2⟩
    · have HO := Lib.hid (ho rfl)
      clear ho
      rcases hd3 with rfl | ⟨hd, rfl⟩
      · skip
        go_enter Try.func4, Try.ntmps4
        go_wp2_with fail
        refine (head_any _).mono ?_; rintro e w1 ⟨rfl, hb1⟩
        have A_1 := (At2.new _ _ _ _).below hb1
        have B1 := ((Below.refl w.heap.size w).alloc (Nat.le_refl _) _).trans (hb1.mono (by simp <;> omega))
        clear hb1
        have l_A := A_1.lt; have c0_A := A_1.c0; have c1_A := A_1.c1
        go_wp2_with fail
        refine (rvalid_is _ _ _ V.out _).mono ?_; rintro e w2 ⟨rfl, hb2⟩
        have A_2 := A_1.below hb2
        have B2 := B1.trans (hb2.mono B1.size)
        clear A_1 hb2 B1 l_A c0_A c1_A
        have l_A := A_2.lt; have c0_A := A_2.c0; have c1_A := A_2.c1
        go_wp2_with fail
        refine (make_is _ _ _ _ _ HO.out _).mono ?_; rintro e w3 ⟨rfl, hb3⟩
        have A_3 := A_2.below hb3
        have B3 := B2.trans (hb3.mono B2.size)
        clear A_2 hb3 B2 l_A c0_A c1_A
        have l_A := A_3.lt; have c0_A := A_3.c0; have c1_A := A_3.c1
        go_wp2_with fail
        go_ret
        exact ⟨rfl, (B3.alloc B3.size _)⟩
      · have hdb : (d == 0) = false := by simpa using hd
        go_enter Try.func4, Try.ntmps4
        go_wp2_with fail
        refine (head_any _).mono ?_; rintro e w1 ⟨rfl, hb1⟩
        have A_1 := (At2.new _ _ _ _).below hb1
        have B1 := ((Below.refl w.heap.size w).alloc (Nat.le_refl _) _).trans (hb1.mono (by simp <;> omega))
        clear hb1
        have l_A := A_1.lt; have c0_A := A_1.c0; have c1_A := A_1.c1
        go_wp2_with fail
        refine (rvalid_is _ _ _ V.out _).mono ?_; rintro e w2 ⟨rfl, hb2⟩
        have A_2 := A_1.below hb2
        have B2 := B1.trans (hb2.mono B1.size)
        clear A_1 hb2 B1 l_A c0_A c1_A
        have l_A := A_2.lt; have c0_A := A_2.c0; have c1_A := A_2.c1
        go_wp2_with fail
        refine (make_is _ _ _ _ _ HO.out _).mono ?_; rintro e w3 ⟨rfl, hb3⟩
        have A_3 := A_2.below hb3
        have B3 := B2.trans (hb3.mono B2.size)
        clear A_2 hb3 B2 l_A c0_A c1_A
        have l_A := A_3.lt; have c0_A := A_3.c0; have c1_A := A_3.c1
        go_wp2_with fail
        go_ret
        exact ⟨rfl, (B3.alloc B3.size _)⟩
  · have hd0 : d ≠ 0 := by omega
    have hy0 : y ≠ 0 := by omega
    have hdb : (d == 0) = false := by simpa using hd0
    have hyb : (y == 0) = false := by simpa using hy0
    have H1 := Lib.hid h1
    have H2 := Lib.hid (h2 hd0 hy0)
    have HE := he hd0
    clear h1 h2 he hd
    rcases HE with ⟨rfl, hvN, hN⟩ | rfl
    · have lN := Rt.vld_lim hvN
      have VN := Lib.hid hvN
      obtain ⟨q1, q2⟩ := mul_in N d 1000000000 2147483648 (by omega) (by omega) (by omega) (by omega)
      obtain ⟨q3, q4⟩ := mul_in D n 1000000 2147483648 (by omega) (by omega) (by omega) (by omega)
      simp only [Int.reduceMul, Int.reduceNeg] at q1 q2 q3 q4
      have hNb : (N * d == D * n) = true := by simpa using hN
      clear hvN hN lN
      cases v
      · clear ho
        go_enter Try.func4, Try.ntmps4
        go_wp2_with fail
        refine (head_any _).mono ?_; rintro e w1 ⟨rfl, hb1⟩
        have A_1 := (At2.new _ _ _ _).below hb1
        have B1 := ((Below.refl w.heap.size w).alloc (Nat.le_refl _) _).trans (hb1.mono (by simp <;> omega))
        clear hb1
        have l_A := A_1.lt; have c0_A := A_1.c0; have c1_A := A_1.c1
        go_wp2_with fail
        refine (rvalid_is _ _ _ V.out _).mono ?_; rintro e w2 ⟨rfl, hb2⟩
        have A_2 := A_1.below hb2
        have B2 := B1.trans (hb2.mono B1.size)
        clear A_1 hb2 B1 l_A c0_A c1_A
        have l_A := A_2.lt; have c0_A := A_2.c0; have c1_A := A_2.c1
        go_wp2_with fail
        refine (make_is _ _ _ _ _ H1.out _).mono ?_; rintro e w3 ⟨rfl, hb3⟩
        have A_3 := A_2.below hb3
        have B3 := B2.trans (hb3.mono B2.size)
        clear A_2 hb3 B2 l_A c0_A c1_A
        go_wp2_with fail
        refine (make_is _ _ _ _ _ H2.out _).mono ?_; rintro e w4 ⟨rfl, hb4⟩
        have A_4 := (A_3.alloc _).below hb4
        have X_4 := (At2.new _ _ _ _).below hb4
        have B4 := (B3.alloc (by have := B3.size; simp <;> omega) _).trans (hb4.mono (by have := B3.size; simp <;> omega))
        clear A_3 hb4 B3
        have l_X := X_4.lt; have c0_X := X_4.c0; have c1_X := X_4.c1
        go_wp2_with fail
        refine (rvalid_is _ _ _ VN.out _).mono ?_; rintro e w5 ⟨rfl, hb5⟩
        have A_5 := (A_4.alloc _).below hb5
        have X_5 := (X_4.alloc _).below hb5
        have Y_5 := (At2.new _ _ _ _).below hb5
        have B5 := (B4.alloc (by have := B4.size; simp <;> omega) _).trans (hb5.mono (by have := B4.size; simp <;> omega))
        clear A_4 X_4 hb5 B4 l_X c0_X c1_X
        have l_X := X_5.lt; have c0_X := X_5.c0; have c1_X := X_5.c1
        go_wp2_with fail
        go_ret
        exact ⟨rfl, B5⟩
      · have HO := Lib.hid (ho rfl)
        clear ho
        go_enter Try.func4, Try.ntmps4
        go_wp2_with fail
        refine (head_any _).mono ?_; rintro e w1 ⟨rfl, hb1⟩
        have A_1 := (At2.new _ _ _ _).below hb1
        have B1 := ((Below.refl w.heap.size w).alloc (Nat.le_refl _) _).trans (hb1.mono (by simp <;> omega))
        clear hb1
        have l_A := A_1.lt; have c0_A := A_1.c0; have c1_A := A_1.c1
        go_wp2_with fail
        refine (rvalid_is _ _ _ V.out _).mono ?_; rintro e w2 ⟨rfl, hb2⟩
        have A_2 := A_1.below hb2
        have B2 := B1.trans (hb2.mono B1.size)
        clear A_1 hb2 B1 l_A c0_A c1_A
        have l_A := A_2.lt; have c0_A := A_2.c0; have c1_A := A_2.c1
        go_wp2_with fail
        refine (make_is _ _ _ _ _ HO.out _).mono ?_; rintro e w3 ⟨rfl, hb3⟩
        have A_3 := A_2.below hb3
        have B3 := B2.trans (hb3.mono B2.size)
        clear A_2 hb3 B2 l_A c0_A c1_A
        have l_A := A_3.lt; have c0_A := A_3.c0; have c1_A := A_3.c1
        go_wp2_with fail
        refine (make_is _ _ _ _ _ H1.out _).mono ?_; rintro e w4 ⟨rfl, hb4⟩
        have A_4 := (A_3.alloc _).below hb4
        have P_4 := (At2.new _ _ _ _).below hb4
        have B4 := (B3.alloc (by have := B3.size; simp <;> omega) _).trans (hb4.mono (by have := B3.size; simp <;> omega))
        clear A_3 hb4 B3 l_A c0_A c1_A
        go_wp2_with fail
        refine (make_is _ _ _ _ _ H2.out _).mono ?_; rintro e w5 ⟨rfl, hb5⟩
        have A_5 := (A_4.alloc _).below hb5
        have P_5 := (P_4.alloc _).below hb5
        have X_5 := (At2.new _ _ _ _).below hb5
        have B5 := (B4.alloc (by have := B4.size; simp <;> omega) _).trans (hb5.mono (by have := B4.size; simp <;> omega))
        clear A_4 P_4 hb5 B4
        have l_X := X_5.lt; have c0_X := X_5.c0; have c1_X := X_5.c1
        go_wp2_with fail
        refine (rvalid_is _ _ _ VN.out _).mono ?_; rintro e w6 ⟨rfl, hb6⟩
        have A_6 := (A_5.alloc _).below hb6
        have P_6 := (P_5.alloc _).below hb6
        have X_6 := (X_5.alloc _).below hb6
        have Y_6 := (At2.new _ _ _ _).below hb6
        have B6 := (B5.alloc (by have := B5.size; simp <;> omega) _).trans (hb6.mono (by have := B5.size; simp <;> omega))
        clear A_5 P_5 X_5 hb6 B5 l_X c0_X c1_X
        have l_X := X_6.lt; have c0_X := X_6.c0; have c1_X := X_6.c1
        go_wp2_with fail
        go_ret
        exact ⟨rfl, B6⟩
    · cases v
      · clear ho
        go_enter Try.func4, Try.ntmps4
        go_wp2_with fail
        refine (head_any _).mono ?_; rintro e w1 ⟨rfl, hb1⟩
        have A_1 := (At2.new _ _ _ _).below hb1
        have B1 := ((Below.refl w.heap.size w).alloc (Nat.le_refl _) _).trans (hb1.mono (by simp <;> omega))
        clear hb1
        have l_A := A_1.lt; have c0_A := A_1.c0; have c1_A := A_1.c1
        go_wp2_with fail
        refine (rvalid_is _ _ _ V.out _).mono ?_; rintro e w2 ⟨rfl, hb2⟩
        have A_2 := A_1.below hb2
        have B2 := B1.trans (hb2.mono B1.size)
        clear A_1 hb2 B1 l_A c0_A c1_A
        have l_A := A_2.lt; have c0_A := A_2.c0; have c1_A := A_2.c1
        go_wp2_with fail
        refine (make_is _ _ _ _ _ H1.out _).mono ?_; rintro e w3 ⟨rfl, hb3⟩
        have A_3 := A_2.below hb3
        have B3 := B2.trans (hb3.mono B2.size)
        clear A_2 hb3 B2 l_A c0_A c1_A
        go_wp2_with fail
        refine (make_is _ _ _ _ _ H2.out _).mono ?_; rintro e w4 ⟨rfl, hb4⟩
        have A_4 := (A_3.alloc _).below hb4
        have X_4 := (At2.new _ _ _ _).below hb4
        have B4 := (B3.alloc (by have := B3.size; simp <;> omega) _).trans (hb4.mono (by have := B3.size; simp <;> omega))
        clear A_3 hb4 B3
        have l_X := X_4.lt; have c0_X := X_4.c0; have c1_X := X_4.c1
        go_wp2_with fail
        go_ret
        exact ⟨rfl, (B4.alloc B4.size _)⟩
      · have HO := Lib.hid (ho rfl)
        clear ho
        go_enter Try.func4, Try.ntmps4
        go_wp2_with fail
        refine (head_any _).mono ?_; rintro e w1 ⟨rfl, hb1⟩
        have A_1 := (At2.new _ _ _ _).below hb1
        have B1 := ((Below.refl w.heap.size w).alloc (Nat.le_refl _) _).trans (hb1.mono (by simp <;> omega))
        clear hb1
        have l_A := A_1.lt; have c0_A := A_1.c0; have c1_A := A_1.c1
        go_wp2_with fail
        refine (rvalid_is _ _ _ V.out _).mono ?_; rintro e w2 ⟨rfl, hb2⟩
        have A_2 := A_1.below hb2
        have B2 := B1.trans (hb2.mono B1.size)
        clear A_1 hb2 B1 l_A c0_A c1_A
        have l_A := A_2.lt; have c0_A := A_2.c0; have c1_A := A_2.c1
        go_wp2_with fail
        refine (make_is _ _ _ _ _ HO.out _).mono ?_; rintro e w3 ⟨rfl, hb3⟩
        have A_3 := A_2.below hb3
        have B3 := B2.trans (hb3.mono B2.size)
        clear A_2 hb3 B2 l_A c0_A c1_A
        have l_A := A_3.lt; have c0_A := A_3.c0; have c1_A := A_3.c1
        go_wp2_with fail
        refine (make_is _ _ _ _ _ H1.out _).mono ?_; rintro e w4 ⟨rfl, hb4⟩
        have A_4 := (A_3.alloc _).below hb4
        have P_4 := (At2.new _ _ _ _).below hb4
        have B4 := (B3.alloc (by have := B3.size; simp <;> omega) _).trans (hb4.mono (by have := B3.size; simp <;> omega))
        clear A_3 hb4 B3 l_A c0_A c1_A
        go_wp2_with fail
        refine (make_is _ _ _ _ _ H2.out _).mono ?_; rintro e w5 ⟨rfl, hb5⟩
        have A_5 := (A_4.alloc _).below hb5
        have P_5 := (P_4.alloc _).below hb5
        have X_5 := (At2.new _ _ _ _).below hb5
        have B5 := (B4.alloc (by have := B4.size; simp <;> omega) _).trans (hb5.mono (by have := B4.size; simp <;> omega))
        clear A_4 P_4 hb5 B4
        have l_X := X_5.lt; have c0_X := X_5.c0; have c1_X := X_5.c1
        go_wp2_with fail
        go_ret
        exact ⟨rfl, (B5.alloc B5.size _)⟩

theorem ratioMakes_walk (n d y a b : Int) (w : World) (wn : (Lit.int .i32 n).wf = true) (wd : (Lit.int .i32 d).wf = true) (wy : (Lit.int .i16 y).wf = true) :
    Calls Try.prog 4 #[.int .i32 n, .int .i32 d, .int .i16 y, .agg #[.int .i64 a, .int .i64 b]] w fun e w' => e = .returned (.bool true) ∧ Below w.heap.size w w' := by
  obtain ⟨n1, n2⟩ := bounds_i32 wn
  obtain ⟨d1, d2⟩ := bounds_i32 wd
  obtain ⟨y1, y2⟩ := bounds_i16 wy
  obtain ⟨p1, p2⟩ := mul_in n y 2147483648 32768 (by omega) (by omega) (by omega) (by omega)
  obtain ⟨p3, p4⟩ := mul_in d y 2147483648 32768 (by omega) (by omega) (by omega) (by omega)
  simp only [Int.reduceMul, Int.reduceNeg] at p1 p2 p3 p4
  have t1 := Rt.make_ok (n := n) (d := d) (Rt.takes_iff.2 (by omega))
  refine makes_ok n d y a b _ _ _ _ w n1 n2 d1 d2 y1 y2 rfl (fun h => Rt.make_own h) t1 (fun h h' => ?_) (fun h => ?_)
  · have t2 := Rt.make_ok (n := n * y) (d := d * y) (Rt.takes_iff.2 (by omega))
    obtain ⟨r0, r1, r2⟩ := Rt.red_congr (n := n) (d := d) (n' := n * y) (d' := d * y) h (Int.mul_ne_zero h h') (by grind)
    rw [t2, r0, r1, r2]
  · rcases Rt.redE_cases n d with g | g | g
    · obtain ⟨_, g2, g3, _, _⟩ := Rt.red_ok g
      exact Or.inl ⟨g, g2, g3⟩
    · exact absurd (Rt.redE_one.1 g) h
    · exact Or.inr g

set_option maxRecDepth 100000 in
theorem ratioMakes_lifted (os : Os) (started : os.Started) (H : Type) (enc : TypeId × Value → H) :
    ReturnsInHanded {} Try.checked os 4 .any (Rows.ratioMakesSpec.pre6 enc Try.prog Try.f4 Rows.ratioMakesRow.domain false) (Rows.ratioMakesSpec.post enc Try.prog Try.f4 false true false false) := by
  refine returnsInHanded_of_change (C := Try.checked) own started (by kernel_rfl) Try.func4
    (ChangeSpec.witness6 (enc := enc) (C := Try.checked) false ⟨#[], #[.int .i32 0, .int .i32 0, .int .i16 0, .agg #[.int .i64 0, .int .i64 0]], []⟩ 8 (by kernel_rfl) (by kernel_rfl) (by kernel_rfl) (by kernel_rfl)) ?_
  intro W base args ds gs before hval0 hW _ _
  have hval : ∀ (j : Nat) t v, Try.f4.params[j]? = some t → args[j]? = some v → Value.okWide Try.prog W .any base t v := hval0
  have hW' := hW
  obtain ⟨p, q, hA0, hV, rfl, _, _⟩ := hW
  have hA : DataW.TrodAll enc Try.prog W 0 (fun _ => true) true Try.f4.params.toList args.toList ds p := hA0
  rw [Try.params4] at hA hval
  obtain ⟨v0, vs0, d0, ds0, p0, q0, hargs, rfl, rfl, h0, r0⟩ := trodAll_cons hA
  obtain ⟨v1, vs1, d1, ds1, p1, q1, rfl, rfl, rfl, h1, r1⟩ := trodAll_cons r0
  obtain ⟨v2, vs2, d2, ds2, p2, q2, rfl, rfl, rfl, h2, r2⟩ := trodAll_cons r1
  obtain ⟨v3, vs3, d3, ds3, p3, q3, rfl, rfl, rfl, h3, r3⟩ := trodAll_cons r2
  obtain ⟨rfl, rfl, rfl⟩ := trodAll_nil r3
  obtain rfl : args = #[v0, v1, v2, v3] := by cases args; simp_all
  obtain ⟨rfl, rfl⟩ := trodVars_none hV
  have k0 := h0
  have lt0 : ∀ x ∈ p0, x.block < W.heap.size := by obtain ⟨m, hm⟩ := k0; exact DataW.trod_lt m _ _ _ hm
  have k1 := h1
  have lt1 : ∀ x ∈ p1, x.block < W.heap.size := by obtain ⟨m, hm⟩ := k1; exact DataW.trod_lt m _ _ _ hm
  have k2 := h2
  have lt2 : ∀ x ∈ p2, x.block < W.heap.size := by obtain ⟨m, hm⟩ := k2; exact DataW.trod_lt m _ _ _ hm
  have k3 := h3
  have lt3 : ∀ x ∈ p3, x.block < W.heap.size := by obtain ⟨m, hm⟩ := k3; exact DataW.trod_lt m _ _ _ hm
  obtain ⟨a0, rfl, rfl, rfl, w0⟩ := open_int Try.underlying21 (hval 0 21 v0 rfl rfl) h0
  obtain ⟨a1, rfl, rfl, rfl, w1⟩ := open_int Try.underlying21 (hval 1 21 v1 rfl rfl) h1
  obtain ⟨a2, rfl, rfl, rfl, w2⟩ := open_int Try.underlying36 (hval 2 36 v2 rfl rfl) h2
  obtain ⟨a3, b3, rfl⟩ := open_rat (hval 3 23 v3 rfl rfl) h3
  clear hA0 hval0
  refine (ratioMakes_walk a0 a1 a2 a3 b3 W w0 w1 w2).mono fun e W' ⟨he, bel⟩ => ?_
  subst he
  exact ⟨_, rfl, _, _, _, [], _, [], hW', trodAll_mk1 (shut_bool Try.underlying4 _), (trodAll_cons_mk (Below.trod laidOut (by kernel_rfl) (of_decide_eq_true (by kernel_rfl)) k0 bel lt0) (trodAll_cons_mk (Below.trod laidOut (by kernel_rfl) (of_decide_eq_true (by kernel_rfl)) k1 bel lt1) (trodAll_cons_mk (Below.trod laidOut (by kernel_rfl) (of_decide_eq_true (by kernel_rfl)) k2 bel lt2) (trodAll_cons_mk (Below.trod laidOut (by kernel_rfl) (of_decide_eq_true (by kernel_rfl)) k3 bel lt3) trodAll_mk0)))), rfl, bel.frame _, fun h => by cases h⟩

/-- THE STATEMENT. -/
theorem ratioMakes_holds : Rows.RatioMakesSaid :=
  OpenClaim.holds_of_wide 4 Try.f4 rfl rfl rfl rfl rfl rfl rfl ⟨rfl, rfl, rfl, rfl, rfl⟩ rfl rfl rfl rfl rfl (by kernel_rfl) Try.func4 (by kernel_rfl)
    (of_decide_eq_true (by kernel_rfl)) (by unfold Func.isWrapper; first | (rw [if_pos (by decide +kernel)]; kernel_rfl) | (rw [if_neg (by decide +kernel)]; exact ⟨rfl, rfl⟩))
    (fun os started H enc _ => ratioMakes_lifted os started H enc)

end Go.Proofs.Ytmcjgplinacdaaa
