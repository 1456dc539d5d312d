/-
  For any ratios and integers, valid or not, and lists of up to 40 ratios or more than 20000, all functions of package ratio return what the reference implementation returns: the law RatioMatchesReference returns true for every input, and leaves it as it was.
  Conditions: none.
-/
import Derived.Test.YtmcjgplinacdaaaHead
import Derived.Test.YtmcjgplinacdaaaOpen
import Derived.Test.YtmcjgplinacdaaaRats
import Derived.Test.YtmcjgplinacdaaaRsum
import Derived.Test.YtmcjgplinacdaaaPure
namespace Go.Proofs.Ytmcjgplinacdaaa
open Go.ChangeShapes Go.WideShapes Go.ChangeAt Go.RowKit

/-- A variable of two integers: its cells hold these, and can be written. -/
structure Var2 (w : World) (b : Nat) (x y : Int) : Prop where
  at2 : At2 w b x y
  f0 : w.frozen? ⟨b, 0, none⟩ = false
  f1 : w.frozen? ⟨b, 1, none⟩ = false
theorem Var2.below {w w' : World} {b : Nat} {x y : Int} (h : Var2 w b x y) (hb : Below w.heap.size w w') : Var2 w' b x y :=
  ⟨h.at2.below hb, (hb.frozen (p := ⟨b, 0, none⟩) h.at2.lt).trans h.f0, (hb.frozen (p := ⟨b, 1, none⟩) h.at2.lt).trans h.f1⟩
theorem Var2.new (w : World) (x y : Int) (t : TypeId) : Var2 (w.alloc (.cells #[.int .i64 x, .int .i64 y] t)) w.heap.size x y :=
  ⟨At2.new w x y t, by go_simp, by go_simp⟩
theorem Var2.alloc {w : World} {b : Nat} {x y : Int} (h : Var2 w b x y) (o : Obj) : Var2 (w.alloc o) b x y :=
  h.below ((Below.refl _ _).alloc (Nat.le_refl _) _)
theorem Var2.store {w : World} {b : Nat} {x y : Int} (h : Var2 w b x y) (p q : Int) : Var2 ((w.setCell ⟨b, 0, none⟩ (.int .i64 p)).setCell ⟨b, 1, none⟩ (.int .i64 q)) b p q := by
  obtain ⟨⟨l, c0, c1⟩, g0, g1⟩ := h
  exact ⟨⟨by simpa using l, by go_simp, by go_simp⟩, by go_simp, by go_simp⟩
theorem Var2.keep {w : World} {b c : Nat} {x y : Int} (h : Var2 w b x y) (hne : b ≠ c) (u v : Value) : Var2 ((w.setCell ⟨c, 0, none⟩ u).setCell ⟨c, 1, none⟩ v) b x y := by
  obtain ⟨⟨l, c0, c1⟩, g0, g1⟩ := h
  exact ⟨⟨by simpa using l, by go_simp, by go_simp⟩, by go_simp, by go_simp⟩
theorem At2.keep {w : World} {b c : Nat} {x y : Int} (h : At2 w b x y) (hne : b ≠ c) (u v : Value) : At2 ((w.setCell ⟨c, 0, none⟩ u).setCell ⟨c, 1, none⟩ v) b x y := by
  obtain ⟨l, c0, c1⟩ := h
  exact ⟨by simpa using l, by go_simp, by go_simp⟩

set_option maxRecDepth 100000 in
set_option maxHeartbeats 800000 in
theorem matches_some (a b c d n e : Int) (oa : Option Addr) (len cap : Nat) (w : World) (h1 : 40 < len) (h2 : len ≤ 20000) :
    Calls Try.prog 3 #[.agg #[.int .i64 a, .int .i64 b], .agg #[.int .i64 c, .int .i64 d], .int .i64 n, .int .i64 e, .slice oa len cap] w fun e w' => e = .returned (.bool true) ∧ Below w.heap.size w w' := by
  go_enter Try.func3, Try.ntmps3
  go_wp2_with fail
  refine (head_any _).mono ?_; rintro e w1 ⟨rfl, hb1⟩
  go_wp2_with fail
  go_ret
  exact ⟨rfl, (((Below.refl _ _).alloc (Nat.le_refl _) _).alloc (by simp) _).trans (hb1.mono (by simp <;> omega))⟩

set_option maxRecDepth 100000 in
set_option maxHeartbeats 6400000 in
theorem matches_main (a b c d n e : Int) (oa : Option Addr) (len cap : Nat) (w : World) (hl : len ≤ 40 ∨ 20000 < len) (hm : len ≤ maxLen) (v : Bool) (hv : Rt.vld a b = v)
    (mN mD mE aN aD aE sN sD sE pN pD pE qN qD qE uN uD uE kV kE fV fE : Int)
    (hM : Rt.makeR n e = (mN, mD, mE)) (hA : Rt.addR a b c d = (aN, aD, aE)) (hS : Rt.subR a b c d = (sN, sD, sE)) (hP : Rt.mulR a b c d = (pN, pD, pE)) (hQ : Rt.divR a b c d = (qN, qD, qE))
    (hK : Rt.cmpR a b c d = (kV, kE)) (hF : Rt.flR a b = (fV, fE))
    (hU : ∀ w', Below w.heap.size w w' → Calls Try.prog 23 #[.slice oa len cap] w' fun e w'' => e = .returned (.tuple #[.agg #[.int .i64 uN, .int .i64 uD], .int .i64 uE]) ∧ Below w'.heap.size w' w'')
    (hUR : ∀ w', Below w.heap.size w w' → Calls Try.prog 24 #[.slice oa len cap] w' fun e w'' => e = .returned (.tuple #[.agg #[.int .i64 uN, .int .i64 uD], .int .i64 uE]) ∧ Below w'.heap.size w' w'') :
    Calls Try.prog 3 #[.agg #[.int .i64 a, .int .i64 b], .agg #[.int .i64 c, .int .i64 d], .int .i64 n, .int .i64 e, .slice oa len cap] w fun e w' => e = .returned (.bool true) ∧ Below w.heap.size w w' := by
  unfold maxLen at hm
  have V := Lib.hid hv
  have HM := Lib.hid hM
  have HA := Lib.hid hA
  have HS := Lib.hid hS
  have HP := Lib.hid hP
  have HQ := Lib.hid hQ
  have HK := Lib.hid hK
  have HF := Lib.hid hF
  have HU := Lib.hid hU
  have HUR := Lib.hid hUR
  clear hv hM hA hS hP hQ hK hF hU hUR
  rcases hl with hl | hl
  all_goals
    go_enter Try.func3, Try.ntmps3
    go_wp2_with fail
    refine (head_any _).mono ?_; rintro e' w1 ⟨rfl, hb1⟩
    have A1 := ((At2.new w a b 23).alloc (.cells #[.int .i64 c, .int .i64 d] 23)).below hb1
    have B1 := At2.at (w.heap.size + 1) ((At2.new (w.alloc (.cells #[.int .i64 a, .int .i64 b] 23)) c d 23).below hb1) (by simp only [World.size_alloc])
    have Z1 := (((Below.refl w.heap.size w).alloc (Nat.le_refl _) (.cells #[.int .i64 a, .int .i64 b] 23)).alloc (by simp) (.cells #[.int .i64 c, .int .i64 d] 23)).trans (hb1.mono (by simp <;> omega))
    clear hb1
    go_wp2_with fail
    refine (make_is _ _ _ _ _ HM.out _).mono ?_; rintro e' w2 ⟨rfl, hb2⟩
    have A2 := A1.below hb2
    have B2 := B1.below hb2
    have Z2 := Z1.trans (hb2.mono Z1.size)
    clear A1 B1 Z1 hb2
    go_wp2_with fail
    refine (rmake_is _ _ _ _ _ HM.out _).mono ?_; rintro e' w3 ⟨rfl, hb3⟩
    have A3 := ((A2.alloc (.cells #[.int .i64 mN, .int .i64 mD] 23)).below hb3).alloc (.cells #[.int .i64 mN, .int .i64 mD] 23)
    have B3 := ((B2.alloc (.cells #[.int .i64 mN, .int .i64 mD] 23)).below hb3).alloc (.cells #[.int .i64 mN, .int .i64 mD] 23)
    have X3 := ((Var2.new w2 mN mD 23).below hb3).alloc (.cells #[.int .i64 mN, .int .i64 mD] 23)
    have Y3 := Var2.new w3 mN mD 23
    have Z3 := (Z2.alloc Z2.size (.cells #[.int .i64 mN, .int .i64 mD] 23)).trans (hb3.mono (by have := Z2.size; simp; omega))
    have Z4 := Z3.alloc Z3.size (.cells #[.int .i64 mN, .int .i64 mD] 23)
    have x1 : w.heap.size ≤ w2.heap.size := Z2.size
    have x2 : w.heap.size ≤ w3.heap.size := Z3.size
    have x3 : w.heap.size ≠ w2.heap.size := by have := A2.lt; omega
    have x4 : w.heap.size + 1 ≠ w2.heap.size := by have := B2.lt; omega
    have x5 : w2.heap.size < w3.heap.size := by have := hb3.size; simp at this; omega
    have x6 : w.heap.size ≠ w3.heap.size := by have := A2.lt; omega
    have x7 : w.heap.size + 1 ≠ w3.heap.size := by have := B2.lt; omega
    have x8 : w2.heap.size ≠ w3.heap.size := by omega
    have x9 : w3.heap.size ≠ w2.heap.size := by omega
    clear A2 B2 Z2 Z3 hb3 x5
    go_wp2_with fail
    generalize w3.alloc (.cells #[.int .i64 mN, .int .i64 mD] 23) = wz at *
    generalize w2.heap.size = bX at *
    generalize w3.heap.size = bY at *
    have xa0 := fun x : Ext wz => x.cell A3.c0
    have xa1 := fun x : Ext wz => x.cell A3.c1
    have xx0 := fun x : Ext wz => x.cell X3.at2.c0
    have xx1 := fun x : Ext wz => x.cell X3.at2.c1
    have xy0 := fun x : Ext wz => x.cell Y3.at2.c0
    have xy1 := fun x : Ext wz => x.cell Y3.at2.c1
    have hne := Ext.there wz
    refine Ext.region (by kernel_rfl) (by kernel_rfl) ?_
    repeat (go_big_quiet_step ((first | (go_at_call 13; exact Ext.call _ (valid_is _ _ _ V.out _)) | (go_at_call 14; exact Ext.call _ (rvalid_is _ _ _ V.out _)))))
    refine wpQuiet_nil ?_
    rintro _ ⟨xw, rfl⟩
    clear xa0 xa1 xx0 xx1 xy0 xy1 hne
    have A_0 := A3.below xw.h
    have B_0 := B3.below xw.h
    have X_0 := X3.below xw.h
    have Y_0 := Y3.below xw.h
    have Z_0 := Z4.trans (xw.h.mono Z4.size)
    generalize xw.w = v0 at *
    clear A3 B3 X3 Y3 Z4 xw
    have Ac0 := A_0.c0; have Ac1 := A_0.c1
    have Bc0 := B_0.c0; have Bc1 := B_0.c1
    have Xc0 := X_0.at2.c0; have Xc1 := X_0.at2.c1
    have Xf0 := X_0.f0; have Xf1 := X_0.f1
    have Yc0 := Y_0.at2.c0; have Yc1 := Y_0.at2.c1
    have Yf0 := Y_0.f0; have Yf1 := Y_0.f1
    go_wp2_with fail
    refine (add_is _ _ _ _ _ _ _ HA.out _).mono ?_; rintro e' v1 ⟨rfl, hb⟩
    have A_1 := A_0.below hb
    have B_1 := B_0.below hb
    have X_1 := X_0.below hb
    have Y_1 := Y_0.below hb
    have Z_1 := Z_0.trans (hb.mono Z_0.size)
    clear hb Ac0 Ac1 Bc0 Bc1 Xc0 Xc1 Xf0 Xf1 Yc0 Yc1 Yf0 Yf1 A_0 B_0 X_0 Y_0 Z_0
    have Ac0 := A_1.c0; have Ac1 := A_1.c1
    have Bc0 := B_1.c0; have Bc1 := B_1.c1
    have Xc0 := X_1.at2.c0; have Xc1 := X_1.at2.c1
    have Xf0 := X_1.f0; have Xf1 := X_1.f1
    have Yc0 := Y_1.at2.c0; have Yc1 := Y_1.at2.c1
    have Yf0 := Y_1.f0; have Yf1 := Y_1.f1
    go_wp2_with fail
    refine (radd_is _ _ _ _ _ _ _ HA.out _).mono ?_; rintro e' v2 ⟨rfl, hb⟩
    have A_2 := (A_1.keep x3 _ _).below hb
    have B_2 := (B_1.keep x4 _ _).below hb
    have X_2 := (X_1.store _ _).below hb
    have Y_2 := (Y_1.keep x9 _ _).below hb
    have Z_2 := ((Z_1.setCell (p := ⟨bX, 0, none⟩) (by simpa using x1) _).setCell (p := ⟨bX, 1, none⟩) (by simpa using x1) _).trans (hb.mono (by have := Z_1.size; simp <;> omega))
    clear hb Ac0 Ac1 Bc0 Bc1 Xc0 Xc1 Xf0 Xf1 Yc0 Yc1 Yf0 Yf1 A_1 B_1 X_1 Y_1 Z_1
    have Ac0 := A_2.c0; have Ac1 := A_2.c1
    have Bc0 := B_2.c0; have Bc1 := B_2.c1
    have Xc0 := X_2.at2.c0; have Xc1 := X_2.at2.c1
    have Xf0 := X_2.f0; have Xf1 := X_2.f1
    have Yc0 := Y_2.at2.c0; have Yc1 := Y_2.at2.c1
    have Yf0 := Y_2.f0; have Yf1 := Y_2.f1
    go_wp2_with fail
    refine (sub_is _ _ _ _ _ _ _ HS.out _).mono ?_; rintro e' v3 ⟨rfl, hb⟩
    have A_3 := (A_2.keep x6 _ _).below hb
    have B_3 := (B_2.keep x7 _ _).below hb
    have Y_3 := (Y_2.store _ _).below hb
    have X_3 := (X_2.keep x8 _ _).below hb
    have Z_3 := ((Z_2.setCell (p := ⟨bY, 0, none⟩) (by simpa using x2) _).setCell (p := ⟨bY, 1, none⟩) (by simpa using x2) _).trans (hb.mono (by have := Z_2.size; simp <;> omega))
    clear hb Ac0 Ac1 Bc0 Bc1 Xc0 Xc1 Xf0 Xf1 Yc0 Yc1 Yf0 Yf1 A_2 B_2 X_2 Y_2 Z_2
    have Ac0 := A_3.c0; have Ac1 := A_3.c1
    have Bc0 := B_3.c0; have Bc1 := B_3.c1
    have Xc0 := X_3.at2.c0; have Xc1 := X_3.at2.c1
    have Xf0 := X_3.f0; have Xf1 := X_3.f1
    have Yc0 := Y_3.at2.c0; have Yc1 := Y_3.at2.c1
    have Yf0 := Y_3.f0; have Yf1 := Y_3.f1
    go_wp2_with fail
    refine (rsub_is _ _ _ _ _ _ _ HS.out _).mono ?_; rintro e' v4 ⟨rfl, hb⟩
    have A_4 := (A_3.keep x3 _ _).below hb
    have B_4 := (B_3.keep x4 _ _).below hb
    have X_4 := (X_3.store _ _).below hb
    have Y_4 := (Y_3.keep x9 _ _).below hb
    have Z_4 := ((Z_3.setCell (p := ⟨bX, 0, none⟩) (by simpa using x1) _).setCell (p := ⟨bX, 1, none⟩) (by simpa using x1) _).trans (hb.mono (by have := Z_3.size; simp <;> omega))
    clear hb Ac0 Ac1 Bc0 Bc1 Xc0 Xc1 Xf0 Xf1 Yc0 Yc1 Yf0 Yf1 A_3 B_3 X_3 Y_3 Z_3
    have Ac0 := A_4.c0; have Ac1 := A_4.c1
    have Bc0 := B_4.c0; have Bc1 := B_4.c1
    have Xc0 := X_4.at2.c0; have Xc1 := X_4.at2.c1
    have Xf0 := X_4.f0; have Xf1 := X_4.f1
    have Yc0 := Y_4.at2.c0; have Yc1 := Y_4.at2.c1
    have Yf0 := Y_4.f0; have Yf1 := Y_4.f1
    go_wp2_with fail
    refine (mul_is _ _ _ _ _ _ _ HP.out _).mono ?_; rintro e' v5 ⟨rfl, hb⟩
    have A_5 := (A_4.keep x6 _ _).below hb
    have B_5 := (B_4.keep x7 _ _).below hb
    have Y_5 := (Y_4.store _ _).below hb
    have X_5 := (X_4.keep x8 _ _).below hb
    have Z_5 := ((Z_4.setCell (p := ⟨bY, 0, none⟩) (by simpa using x2) _).setCell (p := ⟨bY, 1, none⟩) (by simpa using x2) _).trans (hb.mono (by have := Z_4.size; simp <;> omega))
    clear hb Ac0 Ac1 Bc0 Bc1 Xc0 Xc1 Xf0 Xf1 Yc0 Yc1 Yf0 Yf1 A_4 B_4 X_4 Y_4 Z_4
    have Ac0 := A_5.c0; have Ac1 := A_5.c1
    have Bc0 := B_5.c0; have Bc1 := B_5.c1
    have Xc0 := X_5.at2.c0; have Xc1 := X_5.at2.c1
    have Xf0 := X_5.f0; have Xf1 := X_5.f1
    have Yc0 := Y_5.at2.c0; have Yc1 := Y_5.at2.c1
    have Yf0 := Y_5.f0; have Yf1 := Y_5.f1
    go_wp2_with fail
    refine (rmul_is _ _ _ _ _ _ _ HP.out _).mono ?_; rintro e' v6 ⟨rfl, hb⟩
    have A_6 := (A_5.keep x3 _ _).below hb
    have B_6 := (B_5.keep x4 _ _).below hb
    have X_6 := (X_5.store _ _).below hb
    have Y_6 := (Y_5.keep x9 _ _).below hb
    have Z_6 := ((Z_5.setCell (p := ⟨bX, 0, none⟩) (by simpa using x1) _).setCell (p := ⟨bX, 1, none⟩) (by simpa using x1) _).trans (hb.mono (by have := Z_5.size; simp <;> omega))
    clear hb Ac0 Ac1 Bc0 Bc1 Xc0 Xc1 Xf0 Xf1 Yc0 Yc1 Yf0 Yf1 A_5 B_5 X_5 Y_5 Z_5
    have Ac0 := A_6.c0; have Ac1 := A_6.c1
    have Bc0 := B_6.c0; have Bc1 := B_6.c1
    have Xc0 := X_6.at2.c0; have Xc1 := X_6.at2.c1
    have Xf0 := X_6.f0; have Xf1 := X_6.f1
    have Yc0 := Y_6.at2.c0; have Yc1 := Y_6.at2.c1
    have Yf0 := Y_6.f0; have Yf1 := Y_6.f1
    go_wp2_with fail
    refine (div_is _ _ _ _ _ _ _ HQ.out _).mono ?_; rintro e' v7 ⟨rfl, hb⟩
    have A_7 := (A_6.keep x6 _ _).below hb
    have B_7 := (B_6.keep x7 _ _).below hb
    have Y_7 := (Y_6.store _ _).below hb
    have X_7 := (X_6.keep x8 _ _).below hb
    have Z_7 := ((Z_6.setCell (p := ⟨bY, 0, none⟩) (by simpa using x2) _).setCell (p := ⟨bY, 1, none⟩) (by simpa using x2) _).trans (hb.mono (by have := Z_6.size; simp <;> omega))
    clear hb Ac0 Ac1 Bc0 Bc1 Xc0 Xc1 Xf0 Xf1 Yc0 Yc1 Yf0 Yf1 A_6 B_6 X_6 Y_6 Z_6
    have Ac0 := A_7.c0; have Ac1 := A_7.c1
    have Bc0 := B_7.c0; have Bc1 := B_7.c1
    have Xc0 := X_7.at2.c0; have Xc1 := X_7.at2.c1
    have Xf0 := X_7.f0; have Xf1 := X_7.f1
    have Yc0 := Y_7.at2.c0; have Yc1 := Y_7.at2.c1
    have Yf0 := Y_7.f0; have Yf1 := Y_7.f1
    go_wp2_with fail
    refine (rdiv_is _ _ _ _ _ _ _ HQ.out _).mono ?_; rintro e' v8 ⟨rfl, hb⟩
    have A_8 := (A_7.keep x3 _ _).below hb
    have B_8 := (B_7.keep x4 _ _).below hb
    have X_8 := (X_7.store _ _).below hb
    have Y_8 := (Y_7.keep x9 _ _).below hb
    have Z_8 := ((Z_7.setCell (p := ⟨bX, 0, none⟩) (by simpa using x1) _).setCell (p := ⟨bX, 1, none⟩) (by simpa using x1) _).trans (hb.mono (by have := Z_7.size; simp <;> omega))
    clear hb Ac0 Ac1 Bc0 Bc1 Xc0 Xc1 Xf0 Xf1 Yc0 Yc1 Yf0 Yf1 A_7 B_7 X_7 Y_7 Z_7
    have Ac0 := A_8.c0; have Ac1 := A_8.c1
    have Bc0 := B_8.c0; have Bc1 := B_8.c1
    have Xc0 := X_8.at2.c0; have Xc1 := X_8.at2.c1
    have Xf0 := X_8.f0; have Xf1 := X_8.f1
    have Yc0 := Y_8.at2.c0; have Yc1 := Y_8.at2.c1
    have Yf0 := Y_8.f0; have Yf1 := Y_8.f1
    go_wp2_with fail
    refine (HU.out _ ((Z_8.setCell (p := ⟨bY, 0, none⟩) (by simpa using x2) _).setCell (p := ⟨bY, 1, none⟩) (by simpa using x2) _)).mono ?_; rintro e' v9 ⟨rfl, hb⟩
    have A_9 := (A_8.keep x6 _ _).below hb
    have B_9 := (B_8.keep x7 _ _).below hb
    have Y_9 := (Y_8.store _ _).below hb
    have X_9 := (X_8.keep x8 _ _).below hb
    have Z_9 := ((Z_8.setCell (p := ⟨bY, 0, none⟩) (by simpa using x2) _).setCell (p := ⟨bY, 1, none⟩) (by simpa using x2) _).trans (hb.mono (by have := Z_8.size; simp <;> omega))
    clear hb Ac0 Ac1 Bc0 Bc1 Xc0 Xc1 Xf0 Xf1 Yc0 Yc1 Yf0 Yf1 A_8 B_8 X_8 Y_8 Z_8
    have Ac0 := A_9.c0; have Ac1 := A_9.c1
    have Bc0 := B_9.c0; have Bc1 := B_9.c1
    have Xc0 := X_9.at2.c0; have Xc1 := X_9.at2.c1
    have Xf0 := X_9.f0; have Xf1 := X_9.f1
    have Yc0 := Y_9.at2.c0; have Yc1 := Y_9.at2.c1
    have Yf0 := Y_9.f0; have Yf1 := Y_9.f1
    go_wp2_with fail
    refine (HUR.out _ ((Z_9.setCell (p := ⟨bX, 0, none⟩) (by simpa using x1) _).setCell (p := ⟨bX, 1, none⟩) (by simpa using x1) _)).mono ?_; rintro e' v10 ⟨rfl, hb⟩
    have A_10 := (A_9.keep x3 _ _).below hb
    have B_10 := (B_9.keep x4 _ _).below hb
    have X_10 := (X_9.store _ _).below hb
    have Y_10 := (Y_9.keep x9 _ _).below hb
    have Z_10 := ((Z_9.setCell (p := ⟨bX, 0, none⟩) (by simpa using x1) _).setCell (p := ⟨bX, 1, none⟩) (by simpa using x1) _).trans (hb.mono (by have := Z_9.size; simp <;> omega))
    clear hb Ac0 Ac1 Bc0 Bc1 Xc0 Xc1 Xf0 Xf1 Yc0 Yc1 Yf0 Yf1 A_9 B_9 X_9 Y_9 Z_9
    have Ac0 := A_10.c0; have Ac1 := A_10.c1
    have Bc0 := B_10.c0; have Bc1 := B_10.c1
    have Xc0 := X_10.at2.c0; have Xc1 := X_10.at2.c1
    have Xf0 := X_10.f0; have Xf1 := X_10.f1
    have Yc0 := Y_10.at2.c0; have Yc1 := Y_10.at2.c1
    have Yf0 := Y_10.f0; have Yf1 := Y_10.f1
    go_wp2_with fail
    refine (compare_is _ _ _ _ _ _ HK.out _).mono ?_; rintro e' v11 ⟨rfl, hb⟩
    have A_11 := (A_10.keep x6 _ _).below hb
    have B_11 := (B_10.keep x7 _ _).below hb
    have Y_11 := (Y_10.store _ _).below hb
    have X_11 := (X_10.keep x8 _ _).below hb
    have Z_11 := ((Z_10.setCell (p := ⟨bY, 0, none⟩) (by simpa using x2) _).setCell (p := ⟨bY, 1, none⟩) (by simpa using x2) _).trans (hb.mono (by have := Z_10.size; simp <;> omega))
    clear hb Ac0 Ac1 Bc0 Bc1 Xc0 Xc1 Xf0 Xf1 Yc0 Yc1 Yf0 Yf1 A_10 B_10 X_10 Y_10 Z_10
    have Ac0 := A_11.c0; have Ac1 := A_11.c1
    have Bc0 := B_11.c0; have Bc1 := B_11.c1
    have Xc0 := X_11.at2.c0; have Xc1 := X_11.at2.c1
    have Xf0 := X_11.f0; have Xf1 := X_11.f1
    have Yc0 := Y_11.at2.c0; have Yc1 := Y_11.at2.c1
    have Yf0 := Y_11.f0; have Yf1 := Y_11.f1
    go_wp2_with fail
    refine (rcompare_is _ _ _ _ _ _ HK.out _).mono ?_; rintro e' v12 ⟨rfl, hb⟩
    have A_12 := A_11.below hb
    have B_12 := B_11.below hb
    have X_12 := X_11.below hb
    have Y_12 := Y_11.below hb
    have Z_12 := Z_11.trans (hb.mono Z_11.size)
    clear hb Ac0 Ac1 Bc0 Bc1 Xc0 Xc1 Xf0 Xf1 Yc0 Yc1 Yf0 Yf1 A_11 B_11 X_11 Y_11 Z_11
    have Ac0 := A_12.c0; have Ac1 := A_12.c1
    have Bc0 := B_12.c0; have Bc1 := B_12.c1
    have Xc0 := X_12.at2.c0; have Xc1 := X_12.at2.c1
    have Xf0 := X_12.f0; have Xf1 := X_12.f1
    have Yc0 := Y_12.at2.c0; have Yc1 := Y_12.at2.c1
    have Yf0 := Y_12.f0; have Yf1 := Y_12.f1
    go_wp2_with fail
    refine (floor_is _ _ _ _ HF.out _).mono ?_; rintro e' v13 ⟨rfl, hb⟩
    have A_13 := A_12.below hb
    have B_13 := B_12.below hb
    have X_13 := X_12.below hb
    have Y_13 := Y_12.below hb
    have Z_13 := Z_12.trans (hb.mono Z_12.size)
    clear hb Ac0 Ac1 Bc0 Bc1 Xc0 Xc1 Xf0 Xf1 Yc0 Yc1 Yf0 Yf1 A_12 B_12 X_12 Y_12 Z_12
    have Ac0 := A_13.c0; have Ac1 := A_13.c1
    have Bc0 := B_13.c0; have Bc1 := B_13.c1
    have Xc0 := X_13.at2.c0; have Xc1 := X_13.at2.c1
    have Xf0 := X_13.f0; have Xf1 := X_13.f1
    have Yc0 := Y_13.at2.c0; have Yc1 := Y_13.at2.c1
    have Yf0 := Y_13.f0; have Yf1 := Y_13.f1
    go_wp2_with fail
    refine (rfloor_is _ _ _ _ HF.out _).mono ?_; rintro e' v14 ⟨rfl, hb⟩
    have A_14 := A_13.below hb
    have B_14 := B_13.below hb
    have X_14 := X_13.below hb
    have Y_14 := Y_13.below hb
    have Z_14 := Z_13.trans (hb.mono Z_13.size)
    clear hb Ac0 Ac1 Bc0 Bc1 Xc0 Xc1 Xf0 Xf1 Yc0 Yc1 Yf0 Yf1 A_13 B_13 X_13 Y_13 Z_13
    have Ac0 := A_14.c0; have Ac1 := A_14.c1
    have Bc0 := B_14.c0; have Bc1 := B_14.c1
    have Xc0 := X_14.at2.c0; have Xc1 := X_14.at2.c1
    have Xf0 := X_14.f0; have Xf1 := X_14.f1
    have Yc0 := Y_14.at2.c0; have Yc1 := Y_14.at2.c1
    have Yf0 := Y_14.f0; have Yf1 := Y_14.f1
    go_wp2_with fail
    go_ret
    exact ⟨rfl, Z_14⟩

theorem ratioMatchesReference_walk (a b c d n e : Int) (u : Value) (w : World) (hv : (∃ oa cap, u = .slice oa 0 cap) ∨ ∃ xs : List (Int × Int), xs.length ≤ maxLen ∧ SliceIs w u xs) :
    Calls Try.prog 3 #[.agg #[.int .i64 a, .int .i64 b], .agg #[.int .i64 c, .int .i64 d], .int .i64 n, .int .i64 e, u] w fun e w' => e = .returned (.bool true) ∧ Below w.heap.size w w' := by
  have zero : ∀ oa cap, u = .slice oa 0 cap → Calls Try.prog 3 #[.agg #[.int .i64 a, .int .i64 b], .agg #[.int .i64 c, .int .i64 d], .int .i64 n, .int .i64 e, u] w fun e w' => e = .returned (.bool true) ∧ Below w.heap.size w w' := by
    rintro oa cap rfl
    exact matches_main a b c d n e oa 0 cap w (Or.inl (by omega)) (by unfold maxLen; omega) _ rfl _ _ _ _ _ _ _ _ _ _ _ _ _ _ _ 0 1 0 _ _ _ _ rfl rfl rfl rfl rfl rfl rfl (fun w' _ => sum_zero _ _ _) (fun w' _ => rsum_zero _ _ _)
  rcases hv with ⟨oa, cap, h⟩ | ⟨xs, hm, hx⟩
  · exact zero oa cap h
  · have hx' := hx
    rcases hx with ⟨h, _⟩ | ⟨bl, off, cap, rfl, hb, hr⟩
    · exact zero none 0 h
    · by_cases h1 : 40 < xs.length ∧ xs.length ≤ 20000
      · exact matches_some a b c d n e _ _ _ w h1.1 h1.2
      · exact matches_main a b c d n e _ _ _ w (by omega) hm _ rfl _ _ _ _ _ _ _ _ _ _ _ _ _ _ _ _ _ _ _ _ _ _ rfl rfl rfl rfl rfl rfl rfl
          (fun w' h => sum_is _ xs _ _ _ rfl hm _ (hx'.below h)) (fun w' h => rsum_is _ xs _ _ _ rfl hm _ (hx'.below h))

set_option maxRecDepth 100000 in
theorem ratioMatchesReference_lifted (os : Os) (started : os.Started) (H : Type) (enc : TypeId × Value → H) :
    ReturnsInHanded {} Try.checked os 3 .any (Rows.ratioMatchesReferenceSpec.pre6 enc Try.prog Try.f3 Rows.ratioMatchesReferenceRow.domain false) (Rows.ratioMatchesReferenceSpec.post enc Try.prog Try.f3 false true false false) := by
  refine returnsInHanded_of_change (C := Try.checked) own started (by kernel_rfl) Try.func3
    (ChangeSpec.witness6 (enc := enc) (C := Try.checked) false ⟨#[], #[.agg #[.int .i64 0, .int .i64 0], .agg #[.int .i64 0, .int .i64 0], .int .i64 0, .int .i64 0, .slice none 0 0], []⟩ 8 (by kernel_rfl) (by kernel_rfl) (by kernel_rfl) (by kernel_rfl)) ?_
  intro W base args ds gs before hval0 hW _ _
  have hval : ∀ (j : Nat) t v, Try.f3.params[j]? = some t → args[j]? = some v → Value.okWide Try.prog W .any base t v := hval0
  have hW' := hW
  obtain ⟨p, q, hA0, hV, rfl, _, _⟩ := hW
  have hA : DataW.TrodAll enc Try.prog W 0 (fun _ => true) true Try.f3.params.toList args.toList ds p := hA0
  rw [Try.params3] at hA hval
  obtain ⟨v0, vs0, d0, ds0, p0, q0, hargs, rfl, rfl, h0, r0⟩ := trodAll_cons hA
  obtain ⟨v1, vs1, d1, ds1, p1, q1, rfl, rfl, rfl, h1, r1⟩ := trodAll_cons r0
  obtain ⟨v2, vs2, d2, ds2, p2, q2, rfl, rfl, rfl, h2, r2⟩ := trodAll_cons r1
  obtain ⟨v3, vs3, d3, ds3, p3, q3, rfl, rfl, rfl, h3, r3⟩ := trodAll_cons r2
  obtain ⟨v4, vs4, d4, ds4, p4, q4, rfl, rfl, rfl, h4, r4⟩ := trodAll_cons r3
  obtain ⟨rfl, rfl, rfl⟩ := trodAll_nil r4
  obtain rfl : args = #[v0, v1, v2, v3, v4] := by cases args; simp_all
  obtain ⟨rfl, rfl⟩ := trodVars_none hV
  have k0 := h0
  have lt0 : ∀ x ∈ p0, x.block < W.heap.size := by obtain ⟨m, hm⟩ := k0; exact DataW.trod_lt m _ _ _ hm
  have k1 := h1
  have lt1 : ∀ x ∈ p1, x.block < W.heap.size := by obtain ⟨m, hm⟩ := k1; exact DataW.trod_lt m _ _ _ hm
  have k2 := h2
  have lt2 : ∀ x ∈ p2, x.block < W.heap.size := by obtain ⟨m, hm⟩ := k2; exact DataW.trod_lt m _ _ _ hm
  have k3 := h3
  have lt3 : ∀ x ∈ p3, x.block < W.heap.size := by obtain ⟨m, hm⟩ := k3; exact DataW.trod_lt m _ _ _ hm
  have k4 := h4
  have lt4 : ∀ x ∈ p4, x.block < W.heap.size := by obtain ⟨m, hm⟩ := k4; exact DataW.trod_lt m _ _ _ hm
  obtain ⟨a0, b0, rfl⟩ := open_rat (hval 0 23 v0 rfl rfl) h0
  obtain ⟨a1, b1, rfl⟩ := open_rat (hval 1 23 v1 rfl rfl) h1
  obtain ⟨a2, rfl, rfl, rfl, w2⟩ := open_int Try.underlying3 (hval 2 3 v2 rfl rfl) h2
  obtain ⟨a3, rfl, rfl, rfl, w3⟩ := open_int Try.underlying3 (hval 3 3 v3 rfl rfl) h3
  have s4 := open_rats (hval 4 24 v4 rfl rfl) h4
  clear hA0 hval0
  refine (ratioMatchesReference_walk a0 b0 a1 b1 a2 a3 _ W s4).mono fun e W' ⟨he, bel⟩ => ?_
  subst he
  exact ⟨_, rfl, _, _, _, [], _, [], hW', trodAll_mk1 (shut_bool Try.underlying4 _), (trodAll_cons_mk (Below.trod laidOut (by kernel_rfl) (of_decide_eq_true (by kernel_rfl)) k0 bel lt0) (trodAll_cons_mk (Below.trod laidOut (by kernel_rfl) (of_decide_eq_true (by kernel_rfl)) k1 bel lt1) (trodAll_cons_mk (Below.trod laidOut (by kernel_rfl) (of_decide_eq_true (by kernel_rfl)) k2 bel lt2) (trodAll_cons_mk (Below.trod laidOut (by kernel_rfl) (of_decide_eq_true (by kernel_rfl)) k3 bel lt3) (trodAll_cons_mk (Below.trod laidOut (by kernel_rfl) (of_decide_eq_true (by kernel_rfl)) k4 bel lt4) trodAll_mk0))))), rfl, bel.frame _, fun h => by cases h⟩

/-- THE STATEMENT. -/
theorem ratioMatchesReference_holds : Rows.RatioMatchesReferenceSaid :=
  OpenClaim.holds_of_wide 3 Try.f3 rfl rfl rfl rfl rfl rfl rfl ⟨rfl, rfl, rfl, rfl, rfl⟩ rfl rfl rfl rfl rfl (by kernel_rfl) Try.func3 (by kernel_rfl)
    (of_decide_eq_true (by kernel_rfl)) (by unfold Func.isWrapper; first | (rw [if_pos (by decide +kernel)]; kernel_rfl) | (rw [if_neg (by decide +kernel)]; exact ⟨rfl, rfl⟩))
    (fun os started H enc _ => ratioMatchesReference_lifted os started H enc)

end Go.Proofs.Ytmcjgplinacdaaa
