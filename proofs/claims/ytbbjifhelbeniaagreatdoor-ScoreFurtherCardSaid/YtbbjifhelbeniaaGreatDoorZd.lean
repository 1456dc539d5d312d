import Derived.Test.YtbbjifhelbeniaaGreatDoorGM
/- The walks of score's isRange, inRange, isPart, and of the reference's Part1, Range. -/
namespace Go.Proofs.YtbbjifhelbeniaaGreatDoor
open Go.RowKit

theorem rsoundN_is (s a o N : Int) (hN : Sc.num s a o = N) (hn : Sc.pv s a o) (w : World) :
    Calls Tryz.prog 26 #[.agg #[.int .i64 s, .int .i64 a, .int .i64 o]] w fun e w' => e = .returned (.int .i64 N) ∧ Below w.heap.size w w' := rsoundW_is s a o N hN hn w
theorem lpvT (s a o : Int) (h : Sc.pv s a o) (w : World) :
    Calls Tryz.prog 111 #[.agg #[.int .i64 s, .int .i64 a, .int .i64 o]] w fun e w' => e = .returned (.bool true) ∧ Below w.heap.size w w' := lpv s a o true ⟨fun _ => h, fun _ => rfl⟩ w
theorem lpvF (s a o : Int) (h : ¬ Sc.pv s a o) (w : World) :
    Calls Tryz.prog 111 #[.agg #[.int .i64 s, .int .i64 a, .int .i64 o]] w fun e w' => e = .returned (.bool false) ∧ Below w.heap.size w w' := lpv s a o false ⟨(fun h => by cases h), fun k => absurd k h⟩ w
set_option maxHeartbeats 1600000 in
theorem srange_is (p : Sc.Pt) (f : Bool) (h : f = true ↔ Sc.okR p) (w : World) (hG : Glob w) :
    Calls Tryz.prog 87 #[.agg #[.int .i64 p.ls, .int .i64 p.la, .int .i64 p.lo], .agg #[.int .i64 p.hs, .int .i64 p.ha, .int .i64 p.ho]] w fun e w' => e = .returned (.bool f) ∧ Below w.heap.size w w' := by
  unfold Sc.okR at h
  have A0 := (At3.new w p.ls p.la p.lo 47).alloc (.cells #[.int .i64 p.hs, .int .i64 p.ha, .int .i64 p.ho] 47)
  have B0 := At3.new (w.alloc (.cells #[.int .i64 p.ls, .int .i64 p.la, .int .i64 p.lo] 47)) p.hs p.ha p.ho 47
  simp only [World.size_alloc] at B0
  have G0 := ((Below.refl w.heap.size w).alloc (Nat.le_refl _) (.cells #[.int .i64 p.ls, .int .i64 p.la, .int .i64 p.lo] 47)).alloc (by simp) (.cells #[.int .i64 p.hs, .int .i64 p.ha, .int .i64 p.ho] 47)
  have HG := Lib.hid ((hG.alloc (.cells #[.int .i64 p.ls, .int .i64 p.la, .int .i64 p.lo] 47)).alloc (.cells #[.int .i64 p.hs, .int .i64 p.ha, .int .i64 p.ho] 47))
  clear hG
  obtain ⟨w2, hw2⟩ : ∃ w2, (w.alloc (.cells #[.int .i64 p.ls, .int .i64 p.la, .int .i64 p.lo] 47)).alloc (.cells #[.int .i64 p.hs, .int .i64 p.ha, .int .i64 p.ho] 47) = w2 := ⟨_, rfl⟩
  rw [hw2] at A0 B0 G0 HG
  have x0 := fun y : Ext w2 => y.cell A0.c0; have x1 := fun y : Ext w2 => y.cell A0.c1; have x2 := fun y : Ext w2 => y.cell A0.c2
  have y0 := fun y : Ext w2 => y.cell B0.c0; have y1 := fun y : Ext w2 => y.cell B0.c1; have y2 := fun y : Ext w2 => y.cell B0.c2
  have hne := Ext.there w2
  by_cases q1 : Sc.pv p.ls p.la p.lo
  case neg =>
    obtain rfl : f = false := by cases f with
      | false => rfl
      | true => exact absurd (h.1 rfl).1 q1
    have H1 := Lib.hid q1
    clear h q1
    clear A0 B0
    go_enter Tryz.func87, Tryz.ntmps87
    go_wp2_with fail
    try simp only [hw2]
    clear hw2
    refine Ext.region (by kernel_rfl) (by kernel_rfl) ?_
    repeat (go_big_quiet_step ((go_at_call 111; exact Ext.call _ (lpvF _ _ _ H1.out _))))
    refine wpQuiet_nil ?_
    rintro _ ⟨xw, rfl⟩
    have G1 := G0.trans (xw.h.mono G0.size)
    clear x0 x1 x2 y0 y1 y2 hne
    generalize xw.w = w3 at *
    clear xw
    go_wp2_with fail
    go_ret
    exact ⟨rfl, G1⟩
  have H1 := Lib.hid q1
  by_cases q2 : Sc.pv p.hs p.ha p.ho
  case neg =>
    obtain rfl : f = false := by cases f with
      | false => rfl
      | true => exact absurd (h.1 rfl).2.1 q2
    have H2 := Lib.hid q2
    clear h q1 q2
    clear A0 B0
    go_enter Tryz.func87, Tryz.ntmps87
    go_wp2_with fail
    try simp only [hw2]
    clear hw2
    refine Ext.region (by kernel_rfl) (by kernel_rfl) ?_
    repeat (go_big_quiet_step ((go_at_call 111; first | (with_reducible exact Ext.call _ (lpvT _ _ _ H1.out _)) | (with_reducible exact Ext.call _ (lpvF _ _ _ H2.out _)))))
    refine wpQuiet_nil ?_
    rintro _ ⟨xw, rfl⟩
    have G1 := G0.trans (xw.h.mono G0.size)
    clear x0 x1 x2 y0 y1 y2 hne
    generalize xw.w = w3 at *
    clear xw
    go_wp2_with fail
    go_ret
    exact ⟨rfl, G1⟩
  have H2 := Lib.hid q2
  obtain ⟨N1, hN1⟩ : ∃ N1, Sc.num p.ls p.la p.lo = N1 := ⟨_, rfl⟩
  obtain ⟨N2, hN2⟩ : ∃ N2, Sc.num p.hs p.ha p.ho = N2 := ⟨_, rfl⟩
  rw [hN1, hN2] at h
  have HN1 := Lib.hid hN1; have HN2 := Lib.hid hN2
  obtain rfl : f = decide (N1 ≤ N2) := by rw [Bool.eq_iff_iff, h, decide_eq_true_eq]; exact ⟨fun x => x.2.2, fun x => ⟨q1, q2, x⟩⟩
  clear h q1 q2 hN1 hN2
  clear A0 B0
  go_enter Tryz.func87, Tryz.ntmps87
  go_wp2_with fail
  try simp only [hw2]
  clear hw2
  refine Ext.region (by kernel_rfl) (by kernel_rfl) ?_
  repeat (go_big_quiet_step ((first | (go_at_call 111; first | (with_reducible exact Ext.call _ (lpvT p.ls p.la p.lo H1.out _)) | (with_reducible exact Ext.call _ (lpvT p.hs p.ha p.ho H2.out _))) | (go_at_call 88; first | (with_reducible exact Ext.call _ (snumber_is p.ls p.la p.lo N1 HN1.out H1.out _ (HG.out.below (Ext.h _)))) | (with_reducible exact Ext.call _ (snumber_is p.hs p.ha p.ho N2 HN2.out H2.out _ (HG.out.below (Ext.h _))))))))
  refine wpQuiet_nil ?_
  rintro _ ⟨xw, rfl⟩
  have G1 := G0.trans (xw.h.mono G0.size)
  clear x0 x1 x2 y0 y1 y2 hne
  generalize xw.w = w3 at *
  clear xw
  go_wp2_with fail
  go_ret
  exact ⟨rfl, G1⟩
set_option maxHeartbeats 1600000 in
theorem sinrange_is (p : Sc.Pt) (s a o : Int) (f : Bool) (h : decide (Sc.num p.ls p.la p.lo ≤ Sc.num s a o ∧ Sc.num s a o ≤ Sc.num p.hs p.ha p.ho) = f) (hp : Sc.pv s a o) (hR : Sc.okR p) (w : World) (hG : Glob w) :
    Calls Tryz.prog 69 #[.agg #[.int .i64 s, .int .i64 a, .int .i64 o], .agg #[.int .i64 p.id, .int .i64 p.se, .int .i64 p.f, .int .i64 p.oc, .int .i64 p.de, .int .i64 p.ss, .int .i64 p.sm, .int .i64 p.ls, .int .i64 p.la, .int .i64 p.lo, .int .i64 p.hs, .int .i64 p.ha, .int .i64 p.ho]] w fun e w' => e = .returned (.bool f) ∧ Below w.heap.size w w' := by
  have HP := Lib.hid hp
  have H1 := Lib.hid hR.1
  have H2 := Lib.hid hR.2.1
  obtain ⟨N, hN⟩ : ∃ N, Sc.num s a o = N := ⟨_, rfl⟩
  obtain ⟨L, hL⟩ : ∃ L, Sc.num p.ls p.la p.lo = L := ⟨_, rfl⟩
  obtain ⟨U, hU⟩ : ∃ U, Sc.num p.hs p.ha p.ho = U := ⟨_, rfl⟩
  rw [hN, hL, hU] at h
  have HN := Lib.hid hN; have HL := Lib.hid hL; have HU := Lib.hid hU; have HF := Lib.hid h
  have A0 := (At3.new w s a o 47).alloc (.cells #[.int .i64 p.id, .int .i64 p.se, .int .i64 p.f, .int .i64 p.oc, .int .i64 p.de, .int .i64 p.ss, .int .i64 p.sm, .int .i64 p.ls, .int .i64 p.la, .int .i64 p.lo, .int .i64 p.hs, .int .i64 p.ha, .int .i64 p.ho] 49)
  have B0 := PtB.new (w.alloc (.cells #[.int .i64 s, .int .i64 a, .int .i64 o] 47)) p
  simp only [World.size_alloc] at B0
  have G0 := ((Below.refl w.heap.size w).alloc (Nat.le_refl _) (.cells #[.int .i64 s, .int .i64 a, .int .i64 o] 47)).alloc (by simp) (.cells #[.int .i64 p.id, .int .i64 p.se, .int .i64 p.f, .int .i64 p.oc, .int .i64 p.de, .int .i64 p.ss, .int .i64 p.sm, .int .i64 p.ls, .int .i64 p.la, .int .i64 p.lo, .int .i64 p.hs, .int .i64 p.ha, .int .i64 p.ho] 49)
  have HG := Lib.hid ((hG.alloc (.cells #[.int .i64 s, .int .i64 a, .int .i64 o] 47)).alloc (.cells #[.int .i64 p.id, .int .i64 p.se, .int .i64 p.f, .int .i64 p.oc, .int .i64 p.de, .int .i64 p.ss, .int .i64 p.sm, .int .i64 p.ls, .int .i64 p.la, .int .i64 p.lo, .int .i64 p.hs, .int .i64 p.ha, .int .i64 p.ho] 49))
  clear hG
  obtain ⟨w2, hw2⟩ : ∃ w2, (w.alloc (.cells #[.int .i64 s, .int .i64 a, .int .i64 o] 47)).alloc (.cells #[.int .i64 p.id, .int .i64 p.se, .int .i64 p.f, .int .i64 p.oc, .int .i64 p.de, .int .i64 p.ss, .int .i64 p.sm, .int .i64 p.ls, .int .i64 p.la, .int .i64 p.lo, .int .i64 p.hs, .int .i64 p.ha, .int .i64 p.ho] 49) = w2 := ⟨_, rfl⟩
  rw [hw2] at A0 B0 G0 HG
  have x0 := fun y : Ext w2 => y.cell A0.c0; have x1 := fun y : Ext w2 => y.cell A0.c1; have x2 := fun y : Ext w2 => y.cell A0.c2
  have y7 := fun y : Ext w2 => y.cell B0.c7; have y8 := fun y : Ext w2 => y.cell B0.c8; have y9 := fun y : Ext w2 => y.cell B0.c9; have y10 := fun y : Ext w2 => y.cell B0.c10; have y11 := fun y : Ext w2 => y.cell B0.c11; have y12 := fun y : Ext w2 => y.cell B0.c12
  have hne := Ext.there w2
  clear h hp hR hN hL hU A0 B0
  go_enter Tryz.func69, Tryz.ntmps69
  go_wp2_with fail
  try simp only [hw2]
  clear hw2
  refine Ext.region (by kernel_rfl) (by kernel_rfl) ?_
  repeat (go_big_quiet_step (first | (go_at_call 88; first | (with_reducible exact Ext.call _ (snumber_is s a o N HN.out HP.out _ (HG.out.below (Ext.h _)))) | (with_reducible exact Ext.call _ (snumber_is p.ls p.la p.lo L HL.out H1.out _ (HG.out.below (Ext.h _)))) | (with_reducible exact Ext.call _ (snumber_is p.hs p.ha p.ho U HU.out H2.out _ (HG.out.below (Ext.h _))))) | (go_at_call 63; exact Ext.call _ (tbetween_is N L U f HF.out _))))
  refine wpQuiet_nil ?_
  rintro _ ⟨xw, rfl⟩
  have G1 := G0.trans (xw.h.mono G0.size)
  clear x0 x1 x2 y7 y8 y9 y10 y11 y12 hne
  generalize xw.w = w3 at *
  clear xw
  go_wp2_with fail
  go_ret
  exact ⟨rfl, G1⟩
set_option maxHeartbeats 1600000 in
theorem rrange_is (p : Sc.Pt) (s a o : Int) (f : Bool) (h : decide (Sc.num p.ls p.la p.lo ≤ Sc.num s a o ∧ Sc.num s a o ≤ Sc.num p.hs p.ha p.ho) = f) (hp : Sc.pv s a o) (hR : Sc.okR p) (w : World) :
    Calls Tryz.prog 73 #[.agg #[.int .i64 p.id, .int .i64 p.se, .int .i64 p.f, .int .i64 p.oc, .int .i64 p.de, .int .i64 p.ss, .int .i64 p.sm, .int .i64 p.ls, .int .i64 p.la, .int .i64 p.lo, .int .i64 p.hs, .int .i64 p.ha, .int .i64 p.ho], .agg #[.int .i64 s, .int .i64 a, .int .i64 o]] w fun e w' => e = .returned (.bool f) ∧ Below w.heap.size w w' := by
  have HP := Lib.hid hp
  have H1 := Lib.hid hR.1
  have H2 := Lib.hid hR.2.1
  obtain ⟨N, hN⟩ : ∃ N, Sc.num s a o = N := ⟨_, rfl⟩
  obtain ⟨L, hL⟩ : ∃ L, Sc.num p.ls p.la p.lo = L := ⟨_, rfl⟩
  obtain ⟨U, hU⟩ : ∃ U, Sc.num p.hs p.ha p.ho = U := ⟨_, rfl⟩
  rw [hN, hL, hU] at h
  have HN := Lib.hid hN; have HL := Lib.hid hL; have HU := Lib.hid hU; have HF := Lib.hid h
  have B0 := (PtB.new w p).alloc (.cells #[.int .i64 s, .int .i64 a, .int .i64 o] 47)
  have A0 := At3.new (w.alloc (.cells #[.int .i64 p.id, .int .i64 p.se, .int .i64 p.f, .int .i64 p.oc, .int .i64 p.de, .int .i64 p.ss, .int .i64 p.sm, .int .i64 p.ls, .int .i64 p.la, .int .i64 p.lo, .int .i64 p.hs, .int .i64 p.ha, .int .i64 p.ho] 49)) s a o 47
  simp only [World.size_alloc] at A0
  have G0 := ((Below.refl w.heap.size w).alloc (Nat.le_refl _) (.cells #[.int .i64 p.id, .int .i64 p.se, .int .i64 p.f, .int .i64 p.oc, .int .i64 p.de, .int .i64 p.ss, .int .i64 p.sm, .int .i64 p.ls, .int .i64 p.la, .int .i64 p.lo, .int .i64 p.hs, .int .i64 p.ha, .int .i64 p.ho] 49)).alloc (by simp) (.cells #[.int .i64 s, .int .i64 a, .int .i64 o] 47)
  obtain ⟨w2, hw2⟩ : ∃ w2, (w.alloc (.cells #[.int .i64 p.id, .int .i64 p.se, .int .i64 p.f, .int .i64 p.oc, .int .i64 p.de, .int .i64 p.ss, .int .i64 p.sm, .int .i64 p.ls, .int .i64 p.la, .int .i64 p.lo, .int .i64 p.hs, .int .i64 p.ha, .int .i64 p.ho] 49)).alloc (.cells #[.int .i64 s, .int .i64 a, .int .i64 o] 47) = w2 := ⟨_, rfl⟩
  rw [hw2] at A0 B0 G0
  have x0 := fun y : Ext w2 => y.cell A0.c0; have x1 := fun y : Ext w2 => y.cell A0.c1; have x2 := fun y : Ext w2 => y.cell A0.c2
  have y7 := fun y : Ext w2 => y.cell B0.c7; have y8 := fun y : Ext w2 => y.cell B0.c8; have y9 := fun y : Ext w2 => y.cell B0.c9; have y10 := fun y : Ext w2 => y.cell B0.c10; have y11 := fun y : Ext w2 => y.cell B0.c11; have y12 := fun y : Ext w2 => y.cell B0.c12
  have hne := Ext.there w2
  clear h hp hR hN hL hU A0 B0
  go_enter Tryz.func73, Tryz.ntmps73
  go_wp2_with fail
  try simp only [hw2]
  clear hw2
  refine Ext.region (by kernel_rfl) (by kernel_rfl) ?_
  repeat (go_big_quiet_step (first | (go_at_call 26; first | (with_reducible exact Ext.call _ (rsoundN_is s a o N HN.out HP.out _)) | (with_reducible exact Ext.call _ (rsoundN_is p.ls p.la p.lo L HL.out H1.out _)) | (with_reducible exact Ext.call _ (rsoundN_is p.hs p.ha p.ho U HU.out H2.out _))) | (go_at_call 40; exact Ext.call _ (sind_is N L U f HF.out _))))
  refine wpQuiet_nil ?_
  rintro _ ⟨xw, rfl⟩
  have G1 := G0.trans (xw.h.mono G0.size)
  clear x0 x1 x2 y7 y8 y9 y10 y11 y12 hne
  generalize xw.w = w3 at *
  clear xw
  go_wp2_with fail
  go_ret
  exact ⟨rfl, G1⟩
set_option maxHeartbeats 3200000 in
theorem spart_is (p : Sc.Pt) (f : Bool) (h : f = true ↔ Sc.okP p) (w : World) (hG : Glob w) :
    Calls Tryz.prog 65 #[.agg #[.int .i64 p.id, .int .i64 p.se, .int .i64 p.f, .int .i64 p.oc, .int .i64 p.de, .int .i64 p.ss, .int .i64 p.sm, .int .i64 p.ls, .int .i64 p.la, .int .i64 p.lo, .int .i64 p.hs, .int .i64 p.ha, .int .i64 p.ho]] w fun e w' => e = .returned (.bool f) ∧ Below w.heap.size w w' := by
  unfold Sc.okP at h
  by_cases q1 : 1 ≤ p.id ∧ p.id ≤ 1000000
  case neg =>
    obtain rfl : f = false := by cases f with
      | false => rfl
      | true => exact absurd (h.1 rfl).1 q1
    have H1 := Lib.hid (decide_eq_false q1)
    clear h q1
    go_enter Tryz.func65, Tryz.ntmps65
    go_wp2_with fail
    have B := Below.refl w.heap.size w
    refine (tisid_is p.id false H1.out _).mono ?_; rintro e w1 ⟨rfl, hb⟩
    have A := (PtB.new _ p).below hb
    replace hG := (hG.alloc _).below hb
    replace B := (B.alloc (by have := B.size; simp <;> omega) _).trans (hb.mono (by have := B.size; simp <;> omega))
    clear hb
    have lA := A.lt; have cA0 := A.c0; have cA1 := A.c1; have cA2 := A.c2; have cA3 := A.c3; have cA4 := A.c4; have cA5 := A.c5; have cA6 := A.c6; have cA7 := A.c7; have cA8 := A.c8; have cA9 := A.c9; have cA10 := A.c10; have cA11 := A.c11; have cA12 := A.c12
    go_wp2_with fail
    go_ret
    exact ⟨rfl, B⟩
  have H1 := Lib.hid (decide_eq_true q1)
  by_cases q2 : 0 ≤ p.se ∧ p.se ≤ 99
  case neg =>
    obtain rfl : f = false := by cases f with
      | false => rfl
      | true => exact absurd (h.1 rfl).2.1 q2
    have H2 := Lib.hid (decide_eq_false q2)
    clear h q1 q2
    go_enter Tryz.func65, Tryz.ntmps65
    go_wp2_with fail
    have B := Below.refl w.heap.size w
    refine (tisid_is p.id true H1.out _).mono ?_; rintro e w1 ⟨rfl, hb⟩
    have A := (PtB.new _ p).below hb
    replace hG := (hG.alloc _).below hb
    replace B := (B.alloc (by have := B.size; simp <;> omega) _).trans (hb.mono (by have := B.size; simp <;> omega))
    clear hb
    have lA := A.lt; have cA0 := A.c0; have cA1 := A.c1; have cA2 := A.c2; have cA3 := A.c3; have cA4 := A.c4; have cA5 := A.c5; have cA6 := A.c6; have cA7 := A.c7; have cA8 := A.c8; have cA9 := A.c9; have cA10 := A.c10; have cA11 := A.c11; have cA12 := A.c12
    go_wp2_with fail
    refine (tbetween_is p.se 0 99 false H2.out _).mono ?_; rintro e w2 ⟨rfl, hb⟩
    replace A := A.below hb
    replace hG := hG.below hb
    replace B := B.trans (hb.mono (by have := B.size; simp <;> omega))
    clear hb lA cA0 cA1 cA2 cA3 cA4 cA5 cA6 cA7 cA8 cA9 cA10 cA11 cA12
    have lA := A.lt; have cA0 := A.c0; have cA1 := A.c1; have cA2 := A.c2; have cA3 := A.c3; have cA4 := A.c4; have cA5 := A.c5; have cA6 := A.c6; have cA7 := A.c7; have cA8 := A.c8; have cA9 := A.c9; have cA10 := A.c10; have cA11 := A.c11; have cA12 := A.c12
    go_wp2_with fail
    go_ret
    exact ⟨rfl, B⟩
  have H2 := Lib.hid (decide_eq_true q2)
  by_cases q3 : 1 ≤ p.de ∧ p.de ≤ 40
  case neg =>
    obtain rfl : f = false := by cases f with
      | false => rfl
      | true => exact absurd (h.1 rfl).2.2.1 q3
    have H3 := Lib.hid (decide_eq_false q3)
    clear h q1 q2 q3
    go_enter Tryz.func65, Tryz.ntmps65
    go_wp2_with fail
    have B := Below.refl w.heap.size w
    refine (tisid_is p.id true H1.out _).mono ?_; rintro e w1 ⟨rfl, hb⟩
    have A := (PtB.new _ p).below hb
    replace hG := (hG.alloc _).below hb
    replace B := (B.alloc (by have := B.size; simp <;> omega) _).trans (hb.mono (by have := B.size; simp <;> omega))
    clear hb
    have lA := A.lt; have cA0 := A.c0; have cA1 := A.c1; have cA2 := A.c2; have cA3 := A.c3; have cA4 := A.c4; have cA5 := A.c5; have cA6 := A.c6; have cA7 := A.c7; have cA8 := A.c8; have cA9 := A.c9; have cA10 := A.c10; have cA11 := A.c11; have cA12 := A.c12
    go_wp2_with fail
    refine (tbetween_is p.se 0 99 true H2.out _).mono ?_; rintro e w2 ⟨rfl, hb⟩
    replace A := A.below hb
    replace hG := hG.below hb
    replace B := B.trans (hb.mono (by have := B.size; simp <;> omega))
    clear hb lA cA0 cA1 cA2 cA3 cA4 cA5 cA6 cA7 cA8 cA9 cA10 cA11 cA12
    have lA := A.lt; have cA0 := A.c0; have cA1 := A.c1; have cA2 := A.c2; have cA3 := A.c3; have cA4 := A.c4; have cA5 := A.c5; have cA6 := A.c6; have cA7 := A.c7; have cA8 := A.c8; have cA9 := A.c9; have cA10 := A.c10; have cA11 := A.c11; have cA12 := A.c12
    go_wp2_with fail
    refine (tbetween_is p.de 1 40 false H3.out _).mono ?_; rintro e w3 ⟨rfl, hb⟩
    replace A := A.below hb
    replace hG := hG.below hb
    replace B := B.trans (hb.mono (by have := B.size; simp <;> omega))
    clear hb lA cA0 cA1 cA2 cA3 cA4 cA5 cA6 cA7 cA8 cA9 cA10 cA11 cA12
    have lA := A.lt; have cA0 := A.c0; have cA1 := A.c1; have cA2 := A.c2; have cA3 := A.c3; have cA4 := A.c4; have cA5 := A.c5; have cA6 := A.c6; have cA7 := A.c7; have cA8 := A.c8; have cA9 := A.c9; have cA10 := A.c10; have cA11 := A.c11; have cA12 := A.c12
    go_wp2_with fail
    go_ret
    exact ⟨rfl, B⟩
  have H3 := Lib.hid (decide_eq_true q3)
  by_cases q4 : Sc.dbl p
  case neg =>
    obtain rfl : f = false := by cases f with
      | false => rfl
      | true => exact absurd (h.1 rfl).2.2.2.1 q4
    have H4 := Lib.hid q4
    clear h q1 q2 q3 q4
    go_enter Tryz.func65, Tryz.ntmps65
    go_wp2_with fail
    have B := Below.refl w.heap.size w
    refine (tisid_is p.id true H1.out _).mono ?_; rintro e w1 ⟨rfl, hb⟩
    have A := (PtB.new _ p).below hb
    replace hG := (hG.alloc _).below hb
    replace B := (B.alloc (by have := B.size; simp <;> omega) _).trans (hb.mono (by have := B.size; simp <;> omega))
    clear hb
    have lA := A.lt; have cA0 := A.c0; have cA1 := A.c1; have cA2 := A.c2; have cA3 := A.c3; have cA4 := A.c4; have cA5 := A.c5; have cA6 := A.c6; have cA7 := A.c7; have cA8 := A.c8; have cA9 := A.c9; have cA10 := A.c10; have cA11 := A.c11; have cA12 := A.c12
    go_wp2_with fail
    refine (tbetween_is p.se 0 99 true H2.out _).mono ?_; rintro e w2 ⟨rfl, hb⟩
    replace A := A.below hb
    replace hG := hG.below hb
    replace B := B.trans (hb.mono (by have := B.size; simp <;> omega))
    clear hb lA cA0 cA1 cA2 cA3 cA4 cA5 cA6 cA7 cA8 cA9 cA10 cA11 cA12
    have lA := A.lt; have cA0 := A.c0; have cA1 := A.c1; have cA2 := A.c2; have cA3 := A.c3; have cA4 := A.c4; have cA5 := A.c5; have cA6 := A.c6; have cA7 := A.c7; have cA8 := A.c8; have cA9 := A.c9; have cA10 := A.c10; have cA11 := A.c11; have cA12 := A.c12
    go_wp2_with fail
    refine (tbetween_is p.de 1 40 true H3.out _).mono ?_; rintro e w3 ⟨rfl, hb⟩
    replace A := A.below hb
    replace hG := hG.below hb
    replace B := B.trans (hb.mono (by have := B.size; simp <;> omega))
    clear hb lA cA0 cA1 cA2 cA3 cA4 cA5 cA6 cA7 cA8 cA9 cA10 cA11 cA12
    have lA := A.lt; have cA0 := A.c0; have cA1 := A.c1; have cA2 := A.c2; have cA3 := A.c3; have cA4 := A.c4; have cA5 := A.c5; have cA6 := A.c6; have cA7 := A.c7; have cA8 := A.c8; have cA9 := A.c9; have cA10 := A.c10; have cA11 := A.c11; have cA12 := A.c12
    go_wp2_with fail
    refine (sdbl_is p false ⟨(fun h => by cases h), fun h => absurd h H4.out⟩ _).mono ?_; rintro e w4 ⟨rfl, hb⟩
    replace A := A.below hb
    replace hG := hG.below hb
    replace B := B.trans (hb.mono (by have := B.size; simp <;> omega))
    clear hb lA cA0 cA1 cA2 cA3 cA4 cA5 cA6 cA7 cA8 cA9 cA10 cA11 cA12
    have lA := A.lt; have cA0 := A.c0; have cA1 := A.c1; have cA2 := A.c2; have cA3 := A.c3; have cA4 := A.c4; have cA5 := A.c5; have cA6 := A.c6; have cA7 := A.c7; have cA8 := A.c8; have cA9 := A.c9; have cA10 := A.c10; have cA11 := A.c11; have cA12 := A.c12
    go_wp2_with fail
    go_ret
    exact ⟨rfl, B⟩
  have H4 := Lib.hid q4
  by_cases q5 : Sc.okSh p.ss p.sm
  case neg =>
    obtain rfl : f = false := by cases f with
      | false => rfl
      | true => exact absurd (h.1 rfl).2.2.2.2.1 q5
    have H5 := Lib.hid q5
    clear h q1 q2 q3 q4 q5
    go_enter Tryz.func65, Tryz.ntmps65
    go_wp2_with fail
    have B := Below.refl w.heap.size w
    refine (tisid_is p.id true H1.out _).mono ?_; rintro e w1 ⟨rfl, hb⟩
    have A := (PtB.new _ p).below hb
    replace hG := (hG.alloc _).below hb
    replace B := (B.alloc (by have := B.size; simp <;> omega) _).trans (hb.mono (by have := B.size; simp <;> omega))
    clear hb
    have lA := A.lt; have cA0 := A.c0; have cA1 := A.c1; have cA2 := A.c2; have cA3 := A.c3; have cA4 := A.c4; have cA5 := A.c5; have cA6 := A.c6; have cA7 := A.c7; have cA8 := A.c8; have cA9 := A.c9; have cA10 := A.c10; have cA11 := A.c11; have cA12 := A.c12
    go_wp2_with fail
    refine (tbetween_is p.se 0 99 true H2.out _).mono ?_; rintro e w2 ⟨rfl, hb⟩
    replace A := A.below hb
    replace hG := hG.below hb
    replace B := B.trans (hb.mono (by have := B.size; simp <;> omega))
    clear hb lA cA0 cA1 cA2 cA3 cA4 cA5 cA6 cA7 cA8 cA9 cA10 cA11 cA12
    have lA := A.lt; have cA0 := A.c0; have cA1 := A.c1; have cA2 := A.c2; have cA3 := A.c3; have cA4 := A.c4; have cA5 := A.c5; have cA6 := A.c6; have cA7 := A.c7; have cA8 := A.c8; have cA9 := A.c9; have cA10 := A.c10; have cA11 := A.c11; have cA12 := A.c12
    go_wp2_with fail
    refine (tbetween_is p.de 1 40 true H3.out _).mono ?_; rintro e w3 ⟨rfl, hb⟩
    replace A := A.below hb
    replace hG := hG.below hb
    replace B := B.trans (hb.mono (by have := B.size; simp <;> omega))
    clear hb lA cA0 cA1 cA2 cA3 cA4 cA5 cA6 cA7 cA8 cA9 cA10 cA11 cA12
    have lA := A.lt; have cA0 := A.c0; have cA1 := A.c1; have cA2 := A.c2; have cA3 := A.c3; have cA4 := A.c4; have cA5 := A.c5; have cA6 := A.c6; have cA7 := A.c7; have cA8 := A.c8; have cA9 := A.c9; have cA10 := A.c10; have cA11 := A.c11; have cA12 := A.c12
    go_wp2_with fail
    refine (sdbl_is p true ⟨fun _ => H4.out, fun _ => rfl⟩ _).mono ?_; rintro e w4 ⟨rfl, hb⟩
    replace A := A.below hb
    replace hG := hG.below hb
    replace B := B.trans (hb.mono (by have := B.size; simp <;> omega))
    clear hb lA cA0 cA1 cA2 cA3 cA4 cA5 cA6 cA7 cA8 cA9 cA10 cA11 cA12
    have lA := A.lt; have cA0 := A.c0; have cA1 := A.c1; have cA2 := A.c2; have cA3 := A.c3; have cA4 := A.c4; have cA5 := A.c5; have cA6 := A.c6; have cA7 := A.c7; have cA8 := A.c8; have cA9 := A.c9; have cA10 := A.c10; have cA11 := A.c11; have cA12 := A.c12
    go_wp2_with fail
    refine (sshift_is p.ss p.sm false ⟨(fun h => by cases h), fun h => absurd h H5.out⟩ _).mono ?_; rintro e w5 ⟨rfl, hb⟩
    replace A := A.below hb
    replace hG := hG.below hb
    replace B := B.trans (hb.mono (by have := B.size; simp <;> omega))
    clear hb lA cA0 cA1 cA2 cA3 cA4 cA5 cA6 cA7 cA8 cA9 cA10 cA11 cA12
    have lA := A.lt; have cA0 := A.c0; have cA1 := A.c1; have cA2 := A.c2; have cA3 := A.c3; have cA4 := A.c4; have cA5 := A.c5; have cA6 := A.c6; have cA7 := A.c7; have cA8 := A.c8; have cA9 := A.c9; have cA10 := A.c10; have cA11 := A.c11; have cA12 := A.c12
    go_wp2_with fail
    go_ret
    exact ⟨rfl, B⟩
  have H5 := Lib.hid q5
  by_cases q6 : Sc.okR p
  case neg =>
    obtain rfl : f = false := by cases f with
      | false => rfl
      | true => exact absurd (h.1 rfl).2.2.2.2.2 q6
    have H6 := Lib.hid q6
    clear h q1 q2 q3 q4 q5 q6
    go_enter Tryz.func65, Tryz.ntmps65
    go_wp2_with fail
    have B := Below.refl w.heap.size w
    refine (tisid_is p.id true H1.out _).mono ?_; rintro e w1 ⟨rfl, hb⟩
    have A := (PtB.new _ p).below hb
    replace hG := (hG.alloc _).below hb
    replace B := (B.alloc (by have := B.size; simp <;> omega) _).trans (hb.mono (by have := B.size; simp <;> omega))
    clear hb
    have lA := A.lt; have cA0 := A.c0; have cA1 := A.c1; have cA2 := A.c2; have cA3 := A.c3; have cA4 := A.c4; have cA5 := A.c5; have cA6 := A.c6; have cA7 := A.c7; have cA8 := A.c8; have cA9 := A.c9; have cA10 := A.c10; have cA11 := A.c11; have cA12 := A.c12
    go_wp2_with fail
    refine (tbetween_is p.se 0 99 true H2.out _).mono ?_; rintro e w2 ⟨rfl, hb⟩
    replace A := A.below hb
    replace hG := hG.below hb
    replace B := B.trans (hb.mono (by have := B.size; simp <;> omega))
    clear hb lA cA0 cA1 cA2 cA3 cA4 cA5 cA6 cA7 cA8 cA9 cA10 cA11 cA12
    have lA := A.lt; have cA0 := A.c0; have cA1 := A.c1; have cA2 := A.c2; have cA3 := A.c3; have cA4 := A.c4; have cA5 := A.c5; have cA6 := A.c6; have cA7 := A.c7; have cA8 := A.c8; have cA9 := A.c9; have cA10 := A.c10; have cA11 := A.c11; have cA12 := A.c12
    go_wp2_with fail
    refine (tbetween_is p.de 1 40 true H3.out _).mono ?_; rintro e w3 ⟨rfl, hb⟩
    replace A := A.below hb
    replace hG := hG.below hb
    replace B := B.trans (hb.mono (by have := B.size; simp <;> omega))
    clear hb lA cA0 cA1 cA2 cA3 cA4 cA5 cA6 cA7 cA8 cA9 cA10 cA11 cA12
    have lA := A.lt; have cA0 := A.c0; have cA1 := A.c1; have cA2 := A.c2; have cA3 := A.c3; have cA4 := A.c4; have cA5 := A.c5; have cA6 := A.c6; have cA7 := A.c7; have cA8 := A.c8; have cA9 := A.c9; have cA10 := A.c10; have cA11 := A.c11; have cA12 := A.c12
    go_wp2_with fail
    refine (sdbl_is p true ⟨fun _ => H4.out, fun _ => rfl⟩ _).mono ?_; rintro e w4 ⟨rfl, hb⟩
    replace A := A.below hb
    replace hG := hG.below hb
    replace B := B.trans (hb.mono (by have := B.size; simp <;> omega))
    clear hb lA cA0 cA1 cA2 cA3 cA4 cA5 cA6 cA7 cA8 cA9 cA10 cA11 cA12
    have lA := A.lt; have cA0 := A.c0; have cA1 := A.c1; have cA2 := A.c2; have cA3 := A.c3; have cA4 := A.c4; have cA5 := A.c5; have cA6 := A.c6; have cA7 := A.c7; have cA8 := A.c8; have cA9 := A.c9; have cA10 := A.c10; have cA11 := A.c11; have cA12 := A.c12
    go_wp2_with fail
    refine (sshift_is p.ss p.sm true ⟨fun _ => H5.out, fun _ => rfl⟩ _).mono ?_; rintro e w5 ⟨rfl, hb⟩
    replace A := A.below hb
    replace hG := hG.below hb
    replace B := B.trans (hb.mono (by have := B.size; simp <;> omega))
    clear hb lA cA0 cA1 cA2 cA3 cA4 cA5 cA6 cA7 cA8 cA9 cA10 cA11 cA12
    have lA := A.lt; have cA0 := A.c0; have cA1 := A.c1; have cA2 := A.c2; have cA3 := A.c3; have cA4 := A.c4; have cA5 := A.c5; have cA6 := A.c6; have cA7 := A.c7; have cA8 := A.c8; have cA9 := A.c9; have cA10 := A.c10; have cA11 := A.c11; have cA12 := A.c12
    go_wp2_with fail
    refine (srange_is p false ⟨(fun h => by cases h), fun h => absurd h H6.out⟩ _ hG).mono ?_; rintro e w6 ⟨rfl, hb⟩
    replace A := A.below hb
    replace hG := hG.below hb
    replace B := B.trans (hb.mono (by have := B.size; simp <;> omega))
    clear hb lA cA0 cA1 cA2 cA3 cA4 cA5 cA6 cA7 cA8 cA9 cA10 cA11 cA12
    have lA := A.lt; have cA0 := A.c0; have cA1 := A.c1; have cA2 := A.c2; have cA3 := A.c3; have cA4 := A.c4; have cA5 := A.c5; have cA6 := A.c6; have cA7 := A.c7; have cA8 := A.c8; have cA9 := A.c9; have cA10 := A.c10; have cA11 := A.c11; have cA12 := A.c12
    go_wp2_with fail
    go_ret
    exact ⟨rfl, B⟩
  have H6 := Lib.hid q6
  obtain rfl : f = true := h.2 ⟨q1, q2, q3, q4, q5, q6⟩
  clear h q1 q2 q3 q4 q5 q6
  go_enter Tryz.func65, Tryz.ntmps65
  go_wp2_with fail
  have B := Below.refl w.heap.size w
  refine (tisid_is p.id true H1.out _).mono ?_; rintro e w1 ⟨rfl, hb⟩
  have A := (PtB.new _ p).below hb
  replace hG := (hG.alloc _).below hb
  replace B := (B.alloc (by have := B.size; simp <;> omega) _).trans (hb.mono (by have := B.size; simp <;> omega))
  clear hb
  have lA := A.lt; have cA0 := A.c0; have cA1 := A.c1; have cA2 := A.c2; have cA3 := A.c3; have cA4 := A.c4; have cA5 := A.c5; have cA6 := A.c6; have cA7 := A.c7; have cA8 := A.c8; have cA9 := A.c9; have cA10 := A.c10; have cA11 := A.c11; have cA12 := A.c12
  go_wp2_with fail
  refine (tbetween_is p.se 0 99 true H2.out _).mono ?_; rintro e w2 ⟨rfl, hb⟩
  replace A := A.below hb
  replace hG := hG.below hb
  replace B := B.trans (hb.mono (by have := B.size; simp <;> omega))
  clear hb lA cA0 cA1 cA2 cA3 cA4 cA5 cA6 cA7 cA8 cA9 cA10 cA11 cA12
  have lA := A.lt; have cA0 := A.c0; have cA1 := A.c1; have cA2 := A.c2; have cA3 := A.c3; have cA4 := A.c4; have cA5 := A.c5; have cA6 := A.c6; have cA7 := A.c7; have cA8 := A.c8; have cA9 := A.c9; have cA10 := A.c10; have cA11 := A.c11; have cA12 := A.c12
  go_wp2_with fail
  refine (tbetween_is p.de 1 40 true H3.out _).mono ?_; rintro e w3 ⟨rfl, hb⟩
  replace A := A.below hb
  replace hG := hG.below hb
  replace B := B.trans (hb.mono (by have := B.size; simp <;> omega))
  clear hb lA cA0 cA1 cA2 cA3 cA4 cA5 cA6 cA7 cA8 cA9 cA10 cA11 cA12
  have lA := A.lt; have cA0 := A.c0; have cA1 := A.c1; have cA2 := A.c2; have cA3 := A.c3; have cA4 := A.c4; have cA5 := A.c5; have cA6 := A.c6; have cA7 := A.c7; have cA8 := A.c8; have cA9 := A.c9; have cA10 := A.c10; have cA11 := A.c11; have cA12 := A.c12
  go_wp2_with fail
  refine (sdbl_is p true ⟨fun _ => H4.out, fun _ => rfl⟩ _).mono ?_; rintro e w4 ⟨rfl, hb⟩
  replace A := A.below hb
  replace hG := hG.below hb
  replace B := B.trans (hb.mono (by have := B.size; simp <;> omega))
  clear hb lA cA0 cA1 cA2 cA3 cA4 cA5 cA6 cA7 cA8 cA9 cA10 cA11 cA12
  have lA := A.lt; have cA0 := A.c0; have cA1 := A.c1; have cA2 := A.c2; have cA3 := A.c3; have cA4 := A.c4; have cA5 := A.c5; have cA6 := A.c6; have cA7 := A.c7; have cA8 := A.c8; have cA9 := A.c9; have cA10 := A.c10; have cA11 := A.c11; have cA12 := A.c12
  go_wp2_with fail
  refine (sshift_is p.ss p.sm true ⟨fun _ => H5.out, fun _ => rfl⟩ _).mono ?_; rintro e w5 ⟨rfl, hb⟩
  replace A := A.below hb
  replace hG := hG.below hb
  replace B := B.trans (hb.mono (by have := B.size; simp <;> omega))
  clear hb lA cA0 cA1 cA2 cA3 cA4 cA5 cA6 cA7 cA8 cA9 cA10 cA11 cA12
  have lA := A.lt; have cA0 := A.c0; have cA1 := A.c1; have cA2 := A.c2; have cA3 := A.c3; have cA4 := A.c4; have cA5 := A.c5; have cA6 := A.c6; have cA7 := A.c7; have cA8 := A.c8; have cA9 := A.c9; have cA10 := A.c10; have cA11 := A.c11; have cA12 := A.c12
  go_wp2_with fail
  refine (srange_is p true ⟨fun _ => H6.out, fun _ => rfl⟩ _ hG).mono ?_; rintro e w6 ⟨rfl, hb⟩
  replace A := A.below hb
  replace hG := hG.below hb
  replace B := B.trans (hb.mono (by have := B.size; simp <;> omega))
  clear hb lA cA0 cA1 cA2 cA3 cA4 cA5 cA6 cA7 cA8 cA9 cA10 cA11 cA12
  have lA := A.lt; have cA0 := A.c0; have cA1 := A.c1; have cA2 := A.c2; have cA3 := A.c3; have cA4 := A.c4; have cA5 := A.c5; have cA6 := A.c6; have cA7 := A.c7; have cA8 := A.c8; have cA9 := A.c9; have cA10 := A.c10; have cA11 := A.c11; have cA12 := A.c12
  go_wp2_with fail
  go_ret
  exact ⟨rfl, B⟩
theorem okP_ref (p : Sc.Pt) : Sc.okP p ↔ (1 ≤ p.id ∧ p.id ≤ 1000000) ∧ (0 ≤ p.se ∧ p.se ≤ 99) ∧ (0 ≤ p.f ∧ p.f ≤ 1000000) ∧ (-2 ≤ p.oc ∧ p.oc ≤ 2) ∧ (1 ≤ p.de ∧ p.de ≤ 40) ∧ Sc.okSh p.ss p.sm ∧ Sc.pv p.ls p.la p.lo ∧ Sc.pv p.hs p.ha p.ho ∧ (p.f ≠ p.id ∧ (p.f ≠ 0 ∨ p.oc = 0)) ∧ Sc.num p.ls p.la p.lo ≤ Sc.num p.hs p.ha p.ho := by
  unfold Sc.okP Sc.dbl Sc.okR
  by_cases h0 : p.f = 0
  · rw [if_pos h0]
    constructor
    · rintro ⟨a, b, c, d, e, f, g, h⟩
      exact ⟨a, b, by omega, by omega, c, e, f, g, ⟨by omega, .inr d⟩, h⟩
    · rintro ⟨a, b, c, d, e, f, g, h, ⟨i, j⟩, k⟩
      exact ⟨a, b, e, by omega, f, g, h, k⟩
  · rw [if_neg h0]
    constructor
    · rintro ⟨a, b, c, ⟨d1, d2, d3⟩, e, f, g, h⟩
      exact ⟨a, b, by omega, d3, c, e, f, g, ⟨d2, .inl h0⟩, h⟩
    · rintro ⟨a, b, c, d, e, f, g, h, ⟨i, j⟩, k⟩
      exact ⟨a, b, e, ⟨by omega, i, d⟩, f, g, h, k⟩
set_option maxHeartbeats 3200000 in
theorem rpart1_is (p : Sc.Pt) (f : Bool) (h : f = true ↔ Sc.okP p) (w : World) :
    Calls Tryz.prog 72 #[.agg #[.int .i64 p.id, .int .i64 p.se, .int .i64 p.f, .int .i64 p.oc, .int .i64 p.de, .int .i64 p.ss, .int .i64 p.sm, .int .i64 p.ls, .int .i64 p.la, .int .i64 p.lo, .int .i64 p.hs, .int .i64 p.ha, .int .i64 p.ho]] w fun e w' => e = .returned (.bool f) ∧ Below w.heap.size w w' := by
  rw [okP_ref] at h
  obtain ⟨g1, hg1⟩ : ∃ g, decide (1 ≤ p.id ∧ p.id ≤ 1000000) = g := ⟨_, rfl⟩
  have G1 := Lib.hid hg1
  clear hg1
  obtain ⟨g2, hg2⟩ : ∃ g, decide (0 ≤ p.se ∧ p.se ≤ 99) = g := ⟨_, rfl⟩
  have G2 := Lib.hid hg2
  clear hg2
  obtain ⟨g3, hg3⟩ : ∃ g, decide (0 ≤ p.f ∧ p.f ≤ 1000000) = g := ⟨_, rfl⟩
  have G3 := Lib.hid hg3
  clear hg3
  obtain ⟨g4, hg4⟩ : ∃ g, decide (-2 ≤ p.oc ∧ p.oc ≤ 2) = g := ⟨_, rfl⟩
  have G4 := Lib.hid hg4
  clear hg4
  obtain ⟨g5, hg5⟩ : ∃ g, decide (1 ≤ p.de ∧ p.de ≤ 40) = g := ⟨_, rfl⟩
  have G5 := Lib.hid hg5
  clear hg5
  obtain ⟨g6, hg6⟩ := ex_bool (Sc.okSh p.ss p.sm)
  have G6 := Lib.hid hg6
  clear hg6
  obtain ⟨g7, hg7⟩ := ex_bool (Sc.pv p.ls p.la p.lo)
  have G7 := Lib.hid hg7
  clear hg7
  obtain ⟨g8, hg8⟩ := ex_bool (Sc.pv p.hs p.ha p.ho)
  have G8 := Lib.hid hg8
  clear hg8
  by_cases q1 : 1 ≤ p.id ∧ p.id ≤ 1000000
  case neg =>
    obtain rfl : f = false := by cases f with
      | false => rfl
      | true => exact absurd (h.1 rfl).1 q1
    have H1 := Lib.hid (decide_eq_false q1)
    clear h q1
    go_enter Tryz.func72, Tryz.ntmps72
    go_wp2_with fail
    have B := Below.refl w.heap.size w
    refine (sind_is p.id 1 1000000 false H1.out _).mono ?_; rintro e w1 ⟨rfl, hb⟩
    have A := (PtB.new _ p).below hb
    replace B := (B.alloc (by have := B.size; simp <;> omega) _).trans (hb.mono (by have := B.size; simp <;> omega))
    clear hb
    have lA := A.lt; have cA0 := A.c0; have cA1 := A.c1; have cA2 := A.c2; have cA3 := A.c3; have cA4 := A.c4; have cA5 := A.c5; have cA6 := A.c6; have cA7 := A.c7; have cA8 := A.c8; have cA9 := A.c9; have cA10 := A.c10; have cA11 := A.c11; have cA12 := A.c12
    go_wp2_with fail
    refine (sind_is p.se 0 99 g2 G2.out _).mono ?_; rintro e w2 ⟨rfl, hb⟩
    replace A := A.below hb
    replace B := B.trans (hb.mono (by have := B.size; simp <;> omega))
    clear hb lA cA0 cA1 cA2 cA3 cA4 cA5 cA6 cA7 cA8 cA9 cA10 cA11 cA12
    have lA := A.lt; have cA0 := A.c0; have cA1 := A.c1; have cA2 := A.c2; have cA3 := A.c3; have cA4 := A.c4; have cA5 := A.c5; have cA6 := A.c6; have cA7 := A.c7; have cA8 := A.c8; have cA9 := A.c9; have cA10 := A.c10; have cA11 := A.c11; have cA12 := A.c12
    go_wp2_with fail
    refine (sind_is p.f 0 1000000 g3 G3.out _).mono ?_; rintro e w3 ⟨rfl, hb⟩
    replace A := A.below hb
    replace B := B.trans (hb.mono (by have := B.size; simp <;> omega))
    clear hb lA cA0 cA1 cA2 cA3 cA4 cA5 cA6 cA7 cA8 cA9 cA10 cA11 cA12
    have lA := A.lt; have cA0 := A.c0; have cA1 := A.c1; have cA2 := A.c2; have cA3 := A.c3; have cA4 := A.c4; have cA5 := A.c5; have cA6 := A.c6; have cA7 := A.c7; have cA8 := A.c8; have cA9 := A.c9; have cA10 := A.c10; have cA11 := A.c11; have cA12 := A.c12
    go_wp2_with fail
    refine (sind_is p.oc (-2) 2 g4 G4.out _).mono ?_; rintro e w4 ⟨rfl, hb⟩
    replace A := A.below hb
    replace B := B.trans (hb.mono (by have := B.size; simp <;> omega))
    clear hb lA cA0 cA1 cA2 cA3 cA4 cA5 cA6 cA7 cA8 cA9 cA10 cA11 cA12
    have lA := A.lt; have cA0 := A.c0; have cA1 := A.c1; have cA2 := A.c2; have cA3 := A.c3; have cA4 := A.c4; have cA5 := A.c5; have cA6 := A.c6; have cA7 := A.c7; have cA8 := A.c8; have cA9 := A.c9; have cA10 := A.c10; have cA11 := A.c11; have cA12 := A.c12
    go_wp2_with fail
    refine (sind_is p.de 1 40 g5 G5.out _).mono ?_; rintro e w5 ⟨rfl, hb⟩
    replace A := A.below hb
    replace B := B.trans (hb.mono (by have := B.size; simp <;> omega))
    clear hb lA cA0 cA1 cA2 cA3 cA4 cA5 cA6 cA7 cA8 cA9 cA10 cA11 cA12
    have lA := A.lt; have cA0 := A.c0; have cA1 := A.c1; have cA2 := A.c2; have cA3 := A.c3; have cA4 := A.c4; have cA5 := A.c5; have cA6 := A.c6; have cA7 := A.c7; have cA8 := A.c8; have cA9 := A.c9; have cA10 := A.c10; have cA11 := A.c11; have cA12 := A.c12
    go_wp2_with fail
    refine (rshift_is p.ss p.sm g6 G6.out _).mono ?_; rintro e w6 ⟨rfl, hb⟩
    replace A := A.below hb
    replace B := B.trans (hb.mono (by have := B.size; simp <;> omega))
    clear hb lA cA0 cA1 cA2 cA3 cA4 cA5 cA6 cA7 cA8 cA9 cA10 cA11 cA12
    have lA := A.lt; have cA0 := A.c0; have cA1 := A.c1; have cA2 := A.c2; have cA3 := A.c3; have cA4 := A.c4; have cA5 := A.c5; have cA6 := A.c6; have cA7 := A.c7; have cA8 := A.c8; have cA9 := A.c9; have cA10 := A.c10; have cA11 := A.c11; have cA12 := A.c12
    go_wp2_with fail
    refine (rpv p.ls p.la p.lo g7 G7.out _).mono ?_; rintro e w7 ⟨rfl, hb⟩
    replace A := A.below hb
    replace B := B.trans (hb.mono (by have := B.size; simp <;> omega))
    clear hb lA cA0 cA1 cA2 cA3 cA4 cA5 cA6 cA7 cA8 cA9 cA10 cA11 cA12
    have lA := A.lt; have cA0 := A.c0; have cA1 := A.c1; have cA2 := A.c2; have cA3 := A.c3; have cA4 := A.c4; have cA5 := A.c5; have cA6 := A.c6; have cA7 := A.c7; have cA8 := A.c8; have cA9 := A.c9; have cA10 := A.c10; have cA11 := A.c11; have cA12 := A.c12
    go_wp2_with fail
    refine (rpv p.hs p.ha p.ho g8 G8.out _).mono ?_; rintro e w8 ⟨rfl, hb⟩
    replace A := A.below hb
    replace B := B.trans (hb.mono (by have := B.size; simp <;> omega))
    clear hb lA cA0 cA1 cA2 cA3 cA4 cA5 cA6 cA7 cA8 cA9 cA10 cA11 cA12
    have lA := A.lt; have cA0 := A.c0; have cA1 := A.c1; have cA2 := A.c2; have cA3 := A.c3; have cA4 := A.c4; have cA5 := A.c5; have cA6 := A.c6; have cA7 := A.c7; have cA8 := A.c8; have cA9 := A.c9; have cA10 := A.c10; have cA11 := A.c11; have cA12 := A.c12
    go_wp2_with fail
    go_ret
    exact ⟨rfl, B⟩
  have H1 := Lib.hid (decide_eq_true q1)
  by_cases q2 : 0 ≤ p.se ∧ p.se ≤ 99
  case neg =>
    obtain rfl : f = false := by cases f with
      | false => rfl
      | true => exact absurd (h.1 rfl).2.1 q2
    have H2 := Lib.hid (decide_eq_false q2)
    clear h q1 q2
    go_enter Tryz.func72, Tryz.ntmps72
    go_wp2_with fail
    have B := Below.refl w.heap.size w
    refine (sind_is p.id 1 1000000 true H1.out _).mono ?_; rintro e w1 ⟨rfl, hb⟩
    have A := (PtB.new _ p).below hb
    replace B := (B.alloc (by have := B.size; simp <;> omega) _).trans (hb.mono (by have := B.size; simp <;> omega))
    clear hb
    have lA := A.lt; have cA0 := A.c0; have cA1 := A.c1; have cA2 := A.c2; have cA3 := A.c3; have cA4 := A.c4; have cA5 := A.c5; have cA6 := A.c6; have cA7 := A.c7; have cA8 := A.c8; have cA9 := A.c9; have cA10 := A.c10; have cA11 := A.c11; have cA12 := A.c12
    go_wp2_with fail
    refine (sind_is p.se 0 99 false H2.out _).mono ?_; rintro e w2 ⟨rfl, hb⟩
    replace A := A.below hb
    replace B := B.trans (hb.mono (by have := B.size; simp <;> omega))
    clear hb lA cA0 cA1 cA2 cA3 cA4 cA5 cA6 cA7 cA8 cA9 cA10 cA11 cA12
    have lA := A.lt; have cA0 := A.c0; have cA1 := A.c1; have cA2 := A.c2; have cA3 := A.c3; have cA4 := A.c4; have cA5 := A.c5; have cA6 := A.c6; have cA7 := A.c7; have cA8 := A.c8; have cA9 := A.c9; have cA10 := A.c10; have cA11 := A.c11; have cA12 := A.c12
    go_wp2_with fail
    refine (sind_is p.f 0 1000000 g3 G3.out _).mono ?_; rintro e w3 ⟨rfl, hb⟩
    replace A := A.below hb
    replace B := B.trans (hb.mono (by have := B.size; simp <;> omega))
    clear hb lA cA0 cA1 cA2 cA3 cA4 cA5 cA6 cA7 cA8 cA9 cA10 cA11 cA12
    have lA := A.lt; have cA0 := A.c0; have cA1 := A.c1; have cA2 := A.c2; have cA3 := A.c3; have cA4 := A.c4; have cA5 := A.c5; have cA6 := A.c6; have cA7 := A.c7; have cA8 := A.c8; have cA9 := A.c9; have cA10 := A.c10; have cA11 := A.c11; have cA12 := A.c12
    go_wp2_with fail
    refine (sind_is p.oc (-2) 2 g4 G4.out _).mono ?_; rintro e w4 ⟨rfl, hb⟩
    replace A := A.below hb
    replace B := B.trans (hb.mono (by have := B.size; simp <;> omega))
    clear hb lA cA0 cA1 cA2 cA3 cA4 cA5 cA6 cA7 cA8 cA9 cA10 cA11 cA12
    have lA := A.lt; have cA0 := A.c0; have cA1 := A.c1; have cA2 := A.c2; have cA3 := A.c3; have cA4 := A.c4; have cA5 := A.c5; have cA6 := A.c6; have cA7 := A.c7; have cA8 := A.c8; have cA9 := A.c9; have cA10 := A.c10; have cA11 := A.c11; have cA12 := A.c12
    go_wp2_with fail
    refine (sind_is p.de 1 40 g5 G5.out _).mono ?_; rintro e w5 ⟨rfl, hb⟩
    replace A := A.below hb
    replace B := B.trans (hb.mono (by have := B.size; simp <;> omega))
    clear hb lA cA0 cA1 cA2 cA3 cA4 cA5 cA6 cA7 cA8 cA9 cA10 cA11 cA12
    have lA := A.lt; have cA0 := A.c0; have cA1 := A.c1; have cA2 := A.c2; have cA3 := A.c3; have cA4 := A.c4; have cA5 := A.c5; have cA6 := A.c6; have cA7 := A.c7; have cA8 := A.c8; have cA9 := A.c9; have cA10 := A.c10; have cA11 := A.c11; have cA12 := A.c12
    go_wp2_with fail
    refine (rshift_is p.ss p.sm g6 G6.out _).mono ?_; rintro e w6 ⟨rfl, hb⟩
    replace A := A.below hb
    replace B := B.trans (hb.mono (by have := B.size; simp <;> omega))
    clear hb lA cA0 cA1 cA2 cA3 cA4 cA5 cA6 cA7 cA8 cA9 cA10 cA11 cA12
    have lA := A.lt; have cA0 := A.c0; have cA1 := A.c1; have cA2 := A.c2; have cA3 := A.c3; have cA4 := A.c4; have cA5 := A.c5; have cA6 := A.c6; have cA7 := A.c7; have cA8 := A.c8; have cA9 := A.c9; have cA10 := A.c10; have cA11 := A.c11; have cA12 := A.c12
    go_wp2_with fail
    refine (rpv p.ls p.la p.lo g7 G7.out _).mono ?_; rintro e w7 ⟨rfl, hb⟩
    replace A := A.below hb
    replace B := B.trans (hb.mono (by have := B.size; simp <;> omega))
    clear hb lA cA0 cA1 cA2 cA3 cA4 cA5 cA6 cA7 cA8 cA9 cA10 cA11 cA12
    have lA := A.lt; have cA0 := A.c0; have cA1 := A.c1; have cA2 := A.c2; have cA3 := A.c3; have cA4 := A.c4; have cA5 := A.c5; have cA6 := A.c6; have cA7 := A.c7; have cA8 := A.c8; have cA9 := A.c9; have cA10 := A.c10; have cA11 := A.c11; have cA12 := A.c12
    go_wp2_with fail
    refine (rpv p.hs p.ha p.ho g8 G8.out _).mono ?_; rintro e w8 ⟨rfl, hb⟩
    replace A := A.below hb
    replace B := B.trans (hb.mono (by have := B.size; simp <;> omega))
    clear hb lA cA0 cA1 cA2 cA3 cA4 cA5 cA6 cA7 cA8 cA9 cA10 cA11 cA12
    have lA := A.lt; have cA0 := A.c0; have cA1 := A.c1; have cA2 := A.c2; have cA3 := A.c3; have cA4 := A.c4; have cA5 := A.c5; have cA6 := A.c6; have cA7 := A.c7; have cA8 := A.c8; have cA9 := A.c9; have cA10 := A.c10; have cA11 := A.c11; have cA12 := A.c12
    go_wp2_with fail
    go_ret
    exact ⟨rfl, B⟩
  have H2 := Lib.hid (decide_eq_true q2)
  by_cases q3 : 0 ≤ p.f ∧ p.f ≤ 1000000
  case neg =>
    obtain rfl : f = false := by cases f with
      | false => rfl
      | true => exact absurd (h.1 rfl).2.2.1 q3
    have H3 := Lib.hid (decide_eq_false q3)
    clear h q1 q2 q3
    go_enter Tryz.func72, Tryz.ntmps72
    go_wp2_with fail
    have B := Below.refl w.heap.size w
    refine (sind_is p.id 1 1000000 true H1.out _).mono ?_; rintro e w1 ⟨rfl, hb⟩
    have A := (PtB.new _ p).below hb
    replace B := (B.alloc (by have := B.size; simp <;> omega) _).trans (hb.mono (by have := B.size; simp <;> omega))
    clear hb
    have lA := A.lt; have cA0 := A.c0; have cA1 := A.c1; have cA2 := A.c2; have cA3 := A.c3; have cA4 := A.c4; have cA5 := A.c5; have cA6 := A.c6; have cA7 := A.c7; have cA8 := A.c8; have cA9 := A.c9; have cA10 := A.c10; have cA11 := A.c11; have cA12 := A.c12
    go_wp2_with fail
    refine (sind_is p.se 0 99 true H2.out _).mono ?_; rintro e w2 ⟨rfl, hb⟩
    replace A := A.below hb
    replace B := B.trans (hb.mono (by have := B.size; simp <;> omega))
    clear hb lA cA0 cA1 cA2 cA3 cA4 cA5 cA6 cA7 cA8 cA9 cA10 cA11 cA12
    have lA := A.lt; have cA0 := A.c0; have cA1 := A.c1; have cA2 := A.c2; have cA3 := A.c3; have cA4 := A.c4; have cA5 := A.c5; have cA6 := A.c6; have cA7 := A.c7; have cA8 := A.c8; have cA9 := A.c9; have cA10 := A.c10; have cA11 := A.c11; have cA12 := A.c12
    go_wp2_with fail
    refine (sind_is p.f 0 1000000 false H3.out _).mono ?_; rintro e w3 ⟨rfl, hb⟩
    replace A := A.below hb
    replace B := B.trans (hb.mono (by have := B.size; simp <;> omega))
    clear hb lA cA0 cA1 cA2 cA3 cA4 cA5 cA6 cA7 cA8 cA9 cA10 cA11 cA12
    have lA := A.lt; have cA0 := A.c0; have cA1 := A.c1; have cA2 := A.c2; have cA3 := A.c3; have cA4 := A.c4; have cA5 := A.c5; have cA6 := A.c6; have cA7 := A.c7; have cA8 := A.c8; have cA9 := A.c9; have cA10 := A.c10; have cA11 := A.c11; have cA12 := A.c12
    go_wp2_with fail
    refine (sind_is p.oc (-2) 2 g4 G4.out _).mono ?_; rintro e w4 ⟨rfl, hb⟩
    replace A := A.below hb
    replace B := B.trans (hb.mono (by have := B.size; simp <;> omega))
    clear hb lA cA0 cA1 cA2 cA3 cA4 cA5 cA6 cA7 cA8 cA9 cA10 cA11 cA12
    have lA := A.lt; have cA0 := A.c0; have cA1 := A.c1; have cA2 := A.c2; have cA3 := A.c3; have cA4 := A.c4; have cA5 := A.c5; have cA6 := A.c6; have cA7 := A.c7; have cA8 := A.c8; have cA9 := A.c9; have cA10 := A.c10; have cA11 := A.c11; have cA12 := A.c12
    go_wp2_with fail
    refine (sind_is p.de 1 40 g5 G5.out _).mono ?_; rintro e w5 ⟨rfl, hb⟩
    replace A := A.below hb
    replace B := B.trans (hb.mono (by have := B.size; simp <;> omega))
    clear hb lA cA0 cA1 cA2 cA3 cA4 cA5 cA6 cA7 cA8 cA9 cA10 cA11 cA12
    have lA := A.lt; have cA0 := A.c0; have cA1 := A.c1; have cA2 := A.c2; have cA3 := A.c3; have cA4 := A.c4; have cA5 := A.c5; have cA6 := A.c6; have cA7 := A.c7; have cA8 := A.c8; have cA9 := A.c9; have cA10 := A.c10; have cA11 := A.c11; have cA12 := A.c12
    go_wp2_with fail
    refine (rshift_is p.ss p.sm g6 G6.out _).mono ?_; rintro e w6 ⟨rfl, hb⟩
    replace A := A.below hb
    replace B := B.trans (hb.mono (by have := B.size; simp <;> omega))
    clear hb lA cA0 cA1 cA2 cA3 cA4 cA5 cA6 cA7 cA8 cA9 cA10 cA11 cA12
    have lA := A.lt; have cA0 := A.c0; have cA1 := A.c1; have cA2 := A.c2; have cA3 := A.c3; have cA4 := A.c4; have cA5 := A.c5; have cA6 := A.c6; have cA7 := A.c7; have cA8 := A.c8; have cA9 := A.c9; have cA10 := A.c10; have cA11 := A.c11; have cA12 := A.c12
    go_wp2_with fail
    refine (rpv p.ls p.la p.lo g7 G7.out _).mono ?_; rintro e w7 ⟨rfl, hb⟩
    replace A := A.below hb
    replace B := B.trans (hb.mono (by have := B.size; simp <;> omega))
    clear hb lA cA0 cA1 cA2 cA3 cA4 cA5 cA6 cA7 cA8 cA9 cA10 cA11 cA12
    have lA := A.lt; have cA0 := A.c0; have cA1 := A.c1; have cA2 := A.c2; have cA3 := A.c3; have cA4 := A.c4; have cA5 := A.c5; have cA6 := A.c6; have cA7 := A.c7; have cA8 := A.c8; have cA9 := A.c9; have cA10 := A.c10; have cA11 := A.c11; have cA12 := A.c12
    go_wp2_with fail
    refine (rpv p.hs p.ha p.ho g8 G8.out _).mono ?_; rintro e w8 ⟨rfl, hb⟩
    replace A := A.below hb
    replace B := B.trans (hb.mono (by have := B.size; simp <;> omega))
    clear hb lA cA0 cA1 cA2 cA3 cA4 cA5 cA6 cA7 cA8 cA9 cA10 cA11 cA12
    have lA := A.lt; have cA0 := A.c0; have cA1 := A.c1; have cA2 := A.c2; have cA3 := A.c3; have cA4 := A.c4; have cA5 := A.c5; have cA6 := A.c6; have cA7 := A.c7; have cA8 := A.c8; have cA9 := A.c9; have cA10 := A.c10; have cA11 := A.c11; have cA12 := A.c12
    go_wp2_with fail
    go_ret
    exact ⟨rfl, B⟩
  have H3 := Lib.hid (decide_eq_true q3)
  by_cases q4 : -2 ≤ p.oc ∧ p.oc ≤ 2
  case neg =>
    obtain rfl : f = false := by cases f with
      | false => rfl
      | true => exact absurd (h.1 rfl).2.2.2.1 q4
    have H4 := Lib.hid (decide_eq_false q4)
    clear h q1 q2 q3 q4
    go_enter Tryz.func72, Tryz.ntmps72
    go_wp2_with fail
    have B := Below.refl w.heap.size w
    refine (sind_is p.id 1 1000000 true H1.out _).mono ?_; rintro e w1 ⟨rfl, hb⟩
    have A := (PtB.new _ p).below hb
    replace B := (B.alloc (by have := B.size; simp <;> omega) _).trans (hb.mono (by have := B.size; simp <;> omega))
    clear hb
    have lA := A.lt; have cA0 := A.c0; have cA1 := A.c1; have cA2 := A.c2; have cA3 := A.c3; have cA4 := A.c4; have cA5 := A.c5; have cA6 := A.c6; have cA7 := A.c7; have cA8 := A.c8; have cA9 := A.c9; have cA10 := A.c10; have cA11 := A.c11; have cA12 := A.c12
    go_wp2_with fail
    refine (sind_is p.se 0 99 true H2.out _).mono ?_; rintro e w2 ⟨rfl, hb⟩
    replace A := A.below hb
    replace B := B.trans (hb.mono (by have := B.size; simp <;> omega))
    clear hb lA cA0 cA1 cA2 cA3 cA4 cA5 cA6 cA7 cA8 cA9 cA10 cA11 cA12
    have lA := A.lt; have cA0 := A.c0; have cA1 := A.c1; have cA2 := A.c2; have cA3 := A.c3; have cA4 := A.c4; have cA5 := A.c5; have cA6 := A.c6; have cA7 := A.c7; have cA8 := A.c8; have cA9 := A.c9; have cA10 := A.c10; have cA11 := A.c11; have cA12 := A.c12
    go_wp2_with fail
    refine (sind_is p.f 0 1000000 true H3.out _).mono ?_; rintro e w3 ⟨rfl, hb⟩
    replace A := A.below hb
    replace B := B.trans (hb.mono (by have := B.size; simp <;> omega))
    clear hb lA cA0 cA1 cA2 cA3 cA4 cA5 cA6 cA7 cA8 cA9 cA10 cA11 cA12
    have lA := A.lt; have cA0 := A.c0; have cA1 := A.c1; have cA2 := A.c2; have cA3 := A.c3; have cA4 := A.c4; have cA5 := A.c5; have cA6 := A.c6; have cA7 := A.c7; have cA8 := A.c8; have cA9 := A.c9; have cA10 := A.c10; have cA11 := A.c11; have cA12 := A.c12
    go_wp2_with fail
    refine (sind_is p.oc (-2) 2 false H4.out _).mono ?_; rintro e w4 ⟨rfl, hb⟩
    replace A := A.below hb
    replace B := B.trans (hb.mono (by have := B.size; simp <;> omega))
    clear hb lA cA0 cA1 cA2 cA3 cA4 cA5 cA6 cA7 cA8 cA9 cA10 cA11 cA12
    have lA := A.lt; have cA0 := A.c0; have cA1 := A.c1; have cA2 := A.c2; have cA3 := A.c3; have cA4 := A.c4; have cA5 := A.c5; have cA6 := A.c6; have cA7 := A.c7; have cA8 := A.c8; have cA9 := A.c9; have cA10 := A.c10; have cA11 := A.c11; have cA12 := A.c12
    go_wp2_with fail
    refine (sind_is p.de 1 40 g5 G5.out _).mono ?_; rintro e w5 ⟨rfl, hb⟩
    replace A := A.below hb
    replace B := B.trans (hb.mono (by have := B.size; simp <;> omega))
    clear hb lA cA0 cA1 cA2 cA3 cA4 cA5 cA6 cA7 cA8 cA9 cA10 cA11 cA12
    have lA := A.lt; have cA0 := A.c0; have cA1 := A.c1; have cA2 := A.c2; have cA3 := A.c3; have cA4 := A.c4; have cA5 := A.c5; have cA6 := A.c6; have cA7 := A.c7; have cA8 := A.c8; have cA9 := A.c9; have cA10 := A.c10; have cA11 := A.c11; have cA12 := A.c12
    go_wp2_with fail
    refine (rshift_is p.ss p.sm g6 G6.out _).mono ?_; rintro e w6 ⟨rfl, hb⟩
    replace A := A.below hb
    replace B := B.trans (hb.mono (by have := B.size; simp <;> omega))
    clear hb lA cA0 cA1 cA2 cA3 cA4 cA5 cA6 cA7 cA8 cA9 cA10 cA11 cA12
    have lA := A.lt; have cA0 := A.c0; have cA1 := A.c1; have cA2 := A.c2; have cA3 := A.c3; have cA4 := A.c4; have cA5 := A.c5; have cA6 := A.c6; have cA7 := A.c7; have cA8 := A.c8; have cA9 := A.c9; have cA10 := A.c10; have cA11 := A.c11; have cA12 := A.c12
    go_wp2_with fail
    refine (rpv p.ls p.la p.lo g7 G7.out _).mono ?_; rintro e w7 ⟨rfl, hb⟩
    replace A := A.below hb
    replace B := B.trans (hb.mono (by have := B.size; simp <;> omega))
    clear hb lA cA0 cA1 cA2 cA3 cA4 cA5 cA6 cA7 cA8 cA9 cA10 cA11 cA12
    have lA := A.lt; have cA0 := A.c0; have cA1 := A.c1; have cA2 := A.c2; have cA3 := A.c3; have cA4 := A.c4; have cA5 := A.c5; have cA6 := A.c6; have cA7 := A.c7; have cA8 := A.c8; have cA9 := A.c9; have cA10 := A.c10; have cA11 := A.c11; have cA12 := A.c12
    go_wp2_with fail
    refine (rpv p.hs p.ha p.ho g8 G8.out _).mono ?_; rintro e w8 ⟨rfl, hb⟩
    replace A := A.below hb
    replace B := B.trans (hb.mono (by have := B.size; simp <;> omega))
    clear hb lA cA0 cA1 cA2 cA3 cA4 cA5 cA6 cA7 cA8 cA9 cA10 cA11 cA12
    have lA := A.lt; have cA0 := A.c0; have cA1 := A.c1; have cA2 := A.c2; have cA3 := A.c3; have cA4 := A.c4; have cA5 := A.c5; have cA6 := A.c6; have cA7 := A.c7; have cA8 := A.c8; have cA9 := A.c9; have cA10 := A.c10; have cA11 := A.c11; have cA12 := A.c12
    go_wp2_with fail
    go_ret
    exact ⟨rfl, B⟩
  have H4 := Lib.hid (decide_eq_true q4)
  by_cases q5 : 1 ≤ p.de ∧ p.de ≤ 40
  case neg =>
    obtain rfl : f = false := by cases f with
      | false => rfl
      | true => exact absurd (h.1 rfl).2.2.2.2.1 q5
    have H5 := Lib.hid (decide_eq_false q5)
    clear h q1 q2 q3 q4 q5
    go_enter Tryz.func72, Tryz.ntmps72
    go_wp2_with fail
    have B := Below.refl w.heap.size w
    refine (sind_is p.id 1 1000000 true H1.out _).mono ?_; rintro e w1 ⟨rfl, hb⟩
    have A := (PtB.new _ p).below hb
    replace B := (B.alloc (by have := B.size; simp <;> omega) _).trans (hb.mono (by have := B.size; simp <;> omega))
    clear hb
    have lA := A.lt; have cA0 := A.c0; have cA1 := A.c1; have cA2 := A.c2; have cA3 := A.c3; have cA4 := A.c4; have cA5 := A.c5; have cA6 := A.c6; have cA7 := A.c7; have cA8 := A.c8; have cA9 := A.c9; have cA10 := A.c10; have cA11 := A.c11; have cA12 := A.c12
    go_wp2_with fail
    refine (sind_is p.se 0 99 true H2.out _).mono ?_; rintro e w2 ⟨rfl, hb⟩
    replace A := A.below hb
    replace B := B.trans (hb.mono (by have := B.size; simp <;> omega))
    clear hb lA cA0 cA1 cA2 cA3 cA4 cA5 cA6 cA7 cA8 cA9 cA10 cA11 cA12
    have lA := A.lt; have cA0 := A.c0; have cA1 := A.c1; have cA2 := A.c2; have cA3 := A.c3; have cA4 := A.c4; have cA5 := A.c5; have cA6 := A.c6; have cA7 := A.c7; have cA8 := A.c8; have cA9 := A.c9; have cA10 := A.c10; have cA11 := A.c11; have cA12 := A.c12
    go_wp2_with fail
    refine (sind_is p.f 0 1000000 true H3.out _).mono ?_; rintro e w3 ⟨rfl, hb⟩
    replace A := A.below hb
    replace B := B.trans (hb.mono (by have := B.size; simp <;> omega))
    clear hb lA cA0 cA1 cA2 cA3 cA4 cA5 cA6 cA7 cA8 cA9 cA10 cA11 cA12
    have lA := A.lt; have cA0 := A.c0; have cA1 := A.c1; have cA2 := A.c2; have cA3 := A.c3; have cA4 := A.c4; have cA5 := A.c5; have cA6 := A.c6; have cA7 := A.c7; have cA8 := A.c8; have cA9 := A.c9; have cA10 := A.c10; have cA11 := A.c11; have cA12 := A.c12
    go_wp2_with fail
    refine (sind_is p.oc (-2) 2 true H4.out _).mono ?_; rintro e w4 ⟨rfl, hb⟩
    replace A := A.below hb
    replace B := B.trans (hb.mono (by have := B.size; simp <;> omega))
    clear hb lA cA0 cA1 cA2 cA3 cA4 cA5 cA6 cA7 cA8 cA9 cA10 cA11 cA12
    have lA := A.lt; have cA0 := A.c0; have cA1 := A.c1; have cA2 := A.c2; have cA3 := A.c3; have cA4 := A.c4; have cA5 := A.c5; have cA6 := A.c6; have cA7 := A.c7; have cA8 := A.c8; have cA9 := A.c9; have cA10 := A.c10; have cA11 := A.c11; have cA12 := A.c12
    go_wp2_with fail
    refine (sind_is p.de 1 40 false H5.out _).mono ?_; rintro e w5 ⟨rfl, hb⟩
    replace A := A.below hb
    replace B := B.trans (hb.mono (by have := B.size; simp <;> omega))
    clear hb lA cA0 cA1 cA2 cA3 cA4 cA5 cA6 cA7 cA8 cA9 cA10 cA11 cA12
    have lA := A.lt; have cA0 := A.c0; have cA1 := A.c1; have cA2 := A.c2; have cA3 := A.c3; have cA4 := A.c4; have cA5 := A.c5; have cA6 := A.c6; have cA7 := A.c7; have cA8 := A.c8; have cA9 := A.c9; have cA10 := A.c10; have cA11 := A.c11; have cA12 := A.c12
    go_wp2_with fail
    refine (rshift_is p.ss p.sm g6 G6.out _).mono ?_; rintro e w6 ⟨rfl, hb⟩
    replace A := A.below hb
    replace B := B.trans (hb.mono (by have := B.size; simp <;> omega))
    clear hb lA cA0 cA1 cA2 cA3 cA4 cA5 cA6 cA7 cA8 cA9 cA10 cA11 cA12
    have lA := A.lt; have cA0 := A.c0; have cA1 := A.c1; have cA2 := A.c2; have cA3 := A.c3; have cA4 := A.c4; have cA5 := A.c5; have cA6 := A.c6; have cA7 := A.c7; have cA8 := A.c8; have cA9 := A.c9; have cA10 := A.c10; have cA11 := A.c11; have cA12 := A.c12
    go_wp2_with fail
    refine (rpv p.ls p.la p.lo g7 G7.out _).mono ?_; rintro e w7 ⟨rfl, hb⟩
    replace A := A.below hb
    replace B := B.trans (hb.mono (by have := B.size; simp <;> omega))
    clear hb lA cA0 cA1 cA2 cA3 cA4 cA5 cA6 cA7 cA8 cA9 cA10 cA11 cA12
    have lA := A.lt; have cA0 := A.c0; have cA1 := A.c1; have cA2 := A.c2; have cA3 := A.c3; have cA4 := A.c4; have cA5 := A.c5; have cA6 := A.c6; have cA7 := A.c7; have cA8 := A.c8; have cA9 := A.c9; have cA10 := A.c10; have cA11 := A.c11; have cA12 := A.c12
    go_wp2_with fail
    refine (rpv p.hs p.ha p.ho g8 G8.out _).mono ?_; rintro e w8 ⟨rfl, hb⟩
    replace A := A.below hb
    replace B := B.trans (hb.mono (by have := B.size; simp <;> omega))
    clear hb lA cA0 cA1 cA2 cA3 cA4 cA5 cA6 cA7 cA8 cA9 cA10 cA11 cA12
    have lA := A.lt; have cA0 := A.c0; have cA1 := A.c1; have cA2 := A.c2; have cA3 := A.c3; have cA4 := A.c4; have cA5 := A.c5; have cA6 := A.c6; have cA7 := A.c7; have cA8 := A.c8; have cA9 := A.c9; have cA10 := A.c10; have cA11 := A.c11; have cA12 := A.c12
    go_wp2_with fail
    go_ret
    exact ⟨rfl, B⟩
  have H5 := Lib.hid (decide_eq_true q5)
  by_cases q6 : Sc.okSh p.ss p.sm
  case neg =>
    obtain rfl : f = false := by cases f with
      | false => rfl
      | true => exact absurd (h.1 rfl).2.2.2.2.2.1 q6
    have H6 := Lib.hid q6
    clear h q1 q2 q3 q4 q5 q6
    go_enter Tryz.func72, Tryz.ntmps72
    go_wp2_with fail
    have B := Below.refl w.heap.size w
    refine (sind_is p.id 1 1000000 true H1.out _).mono ?_; rintro e w1 ⟨rfl, hb⟩
    have A := (PtB.new _ p).below hb
    replace B := (B.alloc (by have := B.size; simp <;> omega) _).trans (hb.mono (by have := B.size; simp <;> omega))
    clear hb
    have lA := A.lt; have cA0 := A.c0; have cA1 := A.c1; have cA2 := A.c2; have cA3 := A.c3; have cA4 := A.c4; have cA5 := A.c5; have cA6 := A.c6; have cA7 := A.c7; have cA8 := A.c8; have cA9 := A.c9; have cA10 := A.c10; have cA11 := A.c11; have cA12 := A.c12
    go_wp2_with fail
    refine (sind_is p.se 0 99 true H2.out _).mono ?_; rintro e w2 ⟨rfl, hb⟩
    replace A := A.below hb
    replace B := B.trans (hb.mono (by have := B.size; simp <;> omega))
    clear hb lA cA0 cA1 cA2 cA3 cA4 cA5 cA6 cA7 cA8 cA9 cA10 cA11 cA12
    have lA := A.lt; have cA0 := A.c0; have cA1 := A.c1; have cA2 := A.c2; have cA3 := A.c3; have cA4 := A.c4; have cA5 := A.c5; have cA6 := A.c6; have cA7 := A.c7; have cA8 := A.c8; have cA9 := A.c9; have cA10 := A.c10; have cA11 := A.c11; have cA12 := A.c12
    go_wp2_with fail
    refine (sind_is p.f 0 1000000 true H3.out _).mono ?_; rintro e w3 ⟨rfl, hb⟩
    replace A := A.below hb
    replace B := B.trans (hb.mono (by have := B.size; simp <;> omega))
    clear hb lA cA0 cA1 cA2 cA3 cA4 cA5 cA6 cA7 cA8 cA9 cA10 cA11 cA12
    have lA := A.lt; have cA0 := A.c0; have cA1 := A.c1; have cA2 := A.c2; have cA3 := A.c3; have cA4 := A.c4; have cA5 := A.c5; have cA6 := A.c6; have cA7 := A.c7; have cA8 := A.c8; have cA9 := A.c9; have cA10 := A.c10; have cA11 := A.c11; have cA12 := A.c12
    go_wp2_with fail
    refine (sind_is p.oc (-2) 2 true H4.out _).mono ?_; rintro e w4 ⟨rfl, hb⟩
    replace A := A.below hb
    replace B := B.trans (hb.mono (by have := B.size; simp <;> omega))
    clear hb lA cA0 cA1 cA2 cA3 cA4 cA5 cA6 cA7 cA8 cA9 cA10 cA11 cA12
    have lA := A.lt; have cA0 := A.c0; have cA1 := A.c1; have cA2 := A.c2; have cA3 := A.c3; have cA4 := A.c4; have cA5 := A.c5; have cA6 := A.c6; have cA7 := A.c7; have cA8 := A.c8; have cA9 := A.c9; have cA10 := A.c10; have cA11 := A.c11; have cA12 := A.c12
    go_wp2_with fail
    refine (sind_is p.de 1 40 true H5.out _).mono ?_; rintro e w5 ⟨rfl, hb⟩
    replace A := A.below hb
    replace B := B.trans (hb.mono (by have := B.size; simp <;> omega))
    clear hb lA cA0 cA1 cA2 cA3 cA4 cA5 cA6 cA7 cA8 cA9 cA10 cA11 cA12
    have lA := A.lt; have cA0 := A.c0; have cA1 := A.c1; have cA2 := A.c2; have cA3 := A.c3; have cA4 := A.c4; have cA5 := A.c5; have cA6 := A.c6; have cA7 := A.c7; have cA8 := A.c8; have cA9 := A.c9; have cA10 := A.c10; have cA11 := A.c11; have cA12 := A.c12
    go_wp2_with fail
    refine (rshift_is p.ss p.sm false ⟨(fun h => by cases h), fun h => absurd h H6.out⟩ _).mono ?_; rintro e w6 ⟨rfl, hb⟩
    replace A := A.below hb
    replace B := B.trans (hb.mono (by have := B.size; simp <;> omega))
    clear hb lA cA0 cA1 cA2 cA3 cA4 cA5 cA6 cA7 cA8 cA9 cA10 cA11 cA12
    have lA := A.lt; have cA0 := A.c0; have cA1 := A.c1; have cA2 := A.c2; have cA3 := A.c3; have cA4 := A.c4; have cA5 := A.c5; have cA6 := A.c6; have cA7 := A.c7; have cA8 := A.c8; have cA9 := A.c9; have cA10 := A.c10; have cA11 := A.c11; have cA12 := A.c12
    go_wp2_with fail
    refine (rpv p.ls p.la p.lo g7 G7.out _).mono ?_; rintro e w7 ⟨rfl, hb⟩
    replace A := A.below hb
    replace B := B.trans (hb.mono (by have := B.size; simp <;> omega))
    clear hb lA cA0 cA1 cA2 cA3 cA4 cA5 cA6 cA7 cA8 cA9 cA10 cA11 cA12
    have lA := A.lt; have cA0 := A.c0; have cA1 := A.c1; have cA2 := A.c2; have cA3 := A.c3; have cA4 := A.c4; have cA5 := A.c5; have cA6 := A.c6; have cA7 := A.c7; have cA8 := A.c8; have cA9 := A.c9; have cA10 := A.c10; have cA11 := A.c11; have cA12 := A.c12
    go_wp2_with fail
    refine (rpv p.hs p.ha p.ho g8 G8.out _).mono ?_; rintro e w8 ⟨rfl, hb⟩
    replace A := A.below hb
    replace B := B.trans (hb.mono (by have := B.size; simp <;> omega))
    clear hb lA cA0 cA1 cA2 cA3 cA4 cA5 cA6 cA7 cA8 cA9 cA10 cA11 cA12
    have lA := A.lt; have cA0 := A.c0; have cA1 := A.c1; have cA2 := A.c2; have cA3 := A.c3; have cA4 := A.c4; have cA5 := A.c5; have cA6 := A.c6; have cA7 := A.c7; have cA8 := A.c8; have cA9 := A.c9; have cA10 := A.c10; have cA11 := A.c11; have cA12 := A.c12
    go_wp2_with fail
    go_ret
    exact ⟨rfl, B⟩
  have H6 := Lib.hid q6
  by_cases q7 : Sc.pv p.ls p.la p.lo
  case neg =>
    obtain rfl : f = false := by cases f with
      | false => rfl
      | true => exact absurd (h.1 rfl).2.2.2.2.2.2.1 q7
    have H7 := Lib.hid q7
    clear h q1 q2 q3 q4 q5 q6 q7
    go_enter Tryz.func72, Tryz.ntmps72
    go_wp2_with fail
    have B := Below.refl w.heap.size w
    refine (sind_is p.id 1 1000000 true H1.out _).mono ?_; rintro e w1 ⟨rfl, hb⟩
    have A := (PtB.new _ p).below hb
    replace B := (B.alloc (by have := B.size; simp <;> omega) _).trans (hb.mono (by have := B.size; simp <;> omega))
    clear hb
    have lA := A.lt; have cA0 := A.c0; have cA1 := A.c1; have cA2 := A.c2; have cA3 := A.c3; have cA4 := A.c4; have cA5 := A.c5; have cA6 := A.c6; have cA7 := A.c7; have cA8 := A.c8; have cA9 := A.c9; have cA10 := A.c10; have cA11 := A.c11; have cA12 := A.c12
    go_wp2_with fail
    refine (sind_is p.se 0 99 true H2.out _).mono ?_; rintro e w2 ⟨rfl, hb⟩
    replace A := A.below hb
    replace B := B.trans (hb.mono (by have := B.size; simp <;> omega))
    clear hb lA cA0 cA1 cA2 cA3 cA4 cA5 cA6 cA7 cA8 cA9 cA10 cA11 cA12
    have lA := A.lt; have cA0 := A.c0; have cA1 := A.c1; have cA2 := A.c2; have cA3 := A.c3; have cA4 := A.c4; have cA5 := A.c5; have cA6 := A.c6; have cA7 := A.c7; have cA8 := A.c8; have cA9 := A.c9; have cA10 := A.c10; have cA11 := A.c11; have cA12 := A.c12
    go_wp2_with fail
    refine (sind_is p.f 0 1000000 true H3.out _).mono ?_; rintro e w3 ⟨rfl, hb⟩
    replace A := A.below hb
    replace B := B.trans (hb.mono (by have := B.size; simp <;> omega))
    clear hb lA cA0 cA1 cA2 cA3 cA4 cA5 cA6 cA7 cA8 cA9 cA10 cA11 cA12
    have lA := A.lt; have cA0 := A.c0; have cA1 := A.c1; have cA2 := A.c2; have cA3 := A.c3; have cA4 := A.c4; have cA5 := A.c5; have cA6 := A.c6; have cA7 := A.c7; have cA8 := A.c8; have cA9 := A.c9; have cA10 := A.c10; have cA11 := A.c11; have cA12 := A.c12
    go_wp2_with fail
    refine (sind_is p.oc (-2) 2 true H4.out _).mono ?_; rintro e w4 ⟨rfl, hb⟩
    replace A := A.below hb
    replace B := B.trans (hb.mono (by have := B.size; simp <;> omega))
    clear hb lA cA0 cA1 cA2 cA3 cA4 cA5 cA6 cA7 cA8 cA9 cA10 cA11 cA12
    have lA := A.lt; have cA0 := A.c0; have cA1 := A.c1; have cA2 := A.c2; have cA3 := A.c3; have cA4 := A.c4; have cA5 := A.c5; have cA6 := A.c6; have cA7 := A.c7; have cA8 := A.c8; have cA9 := A.c9; have cA10 := A.c10; have cA11 := A.c11; have cA12 := A.c12
    go_wp2_with fail
    refine (sind_is p.de 1 40 true H5.out _).mono ?_; rintro e w5 ⟨rfl, hb⟩
    replace A := A.below hb
    replace B := B.trans (hb.mono (by have := B.size; simp <;> omega))
    clear hb lA cA0 cA1 cA2 cA3 cA4 cA5 cA6 cA7 cA8 cA9 cA10 cA11 cA12
    have lA := A.lt; have cA0 := A.c0; have cA1 := A.c1; have cA2 := A.c2; have cA3 := A.c3; have cA4 := A.c4; have cA5 := A.c5; have cA6 := A.c6; have cA7 := A.c7; have cA8 := A.c8; have cA9 := A.c9; have cA10 := A.c10; have cA11 := A.c11; have cA12 := A.c12
    go_wp2_with fail
    refine (rshift_is p.ss p.sm true ⟨fun _ => H6.out, fun _ => rfl⟩ _).mono ?_; rintro e w6 ⟨rfl, hb⟩
    replace A := A.below hb
    replace B := B.trans (hb.mono (by have := B.size; simp <;> omega))
    clear hb lA cA0 cA1 cA2 cA3 cA4 cA5 cA6 cA7 cA8 cA9 cA10 cA11 cA12
    have lA := A.lt; have cA0 := A.c0; have cA1 := A.c1; have cA2 := A.c2; have cA3 := A.c3; have cA4 := A.c4; have cA5 := A.c5; have cA6 := A.c6; have cA7 := A.c7; have cA8 := A.c8; have cA9 := A.c9; have cA10 := A.c10; have cA11 := A.c11; have cA12 := A.c12
    go_wp2_with fail
    refine (rpv p.ls p.la p.lo false ⟨(fun h => by cases h), fun h => absurd h H7.out⟩ _).mono ?_; rintro e w7 ⟨rfl, hb⟩
    replace A := A.below hb
    replace B := B.trans (hb.mono (by have := B.size; simp <;> omega))
    clear hb lA cA0 cA1 cA2 cA3 cA4 cA5 cA6 cA7 cA8 cA9 cA10 cA11 cA12
    have lA := A.lt; have cA0 := A.c0; have cA1 := A.c1; have cA2 := A.c2; have cA3 := A.c3; have cA4 := A.c4; have cA5 := A.c5; have cA6 := A.c6; have cA7 := A.c7; have cA8 := A.c8; have cA9 := A.c9; have cA10 := A.c10; have cA11 := A.c11; have cA12 := A.c12
    go_wp2_with fail
    refine (rpv p.hs p.ha p.ho g8 G8.out _).mono ?_; rintro e w8 ⟨rfl, hb⟩
    replace A := A.below hb
    replace B := B.trans (hb.mono (by have := B.size; simp <;> omega))
    clear hb lA cA0 cA1 cA2 cA3 cA4 cA5 cA6 cA7 cA8 cA9 cA10 cA11 cA12
    have lA := A.lt; have cA0 := A.c0; have cA1 := A.c1; have cA2 := A.c2; have cA3 := A.c3; have cA4 := A.c4; have cA5 := A.c5; have cA6 := A.c6; have cA7 := A.c7; have cA8 := A.c8; have cA9 := A.c9; have cA10 := A.c10; have cA11 := A.c11; have cA12 := A.c12
    go_wp2_with fail
    go_ret
    exact ⟨rfl, B⟩
  have H7 := Lib.hid q7
  by_cases q8 : Sc.pv p.hs p.ha p.ho
  case neg =>
    obtain rfl : f = false := by cases f with
      | false => rfl
      | true => exact absurd (h.1 rfl).2.2.2.2.2.2.2.1 q8
    have H8 := Lib.hid q8
    clear h q1 q2 q3 q4 q5 q6 q7 q8
    go_enter Tryz.func72, Tryz.ntmps72
    go_wp2_with fail
    have B := Below.refl w.heap.size w
    refine (sind_is p.id 1 1000000 true H1.out _).mono ?_; rintro e w1 ⟨rfl, hb⟩
    have A := (PtB.new _ p).below hb
    replace B := (B.alloc (by have := B.size; simp <;> omega) _).trans (hb.mono (by have := B.size; simp <;> omega))
    clear hb
    have lA := A.lt; have cA0 := A.c0; have cA1 := A.c1; have cA2 := A.c2; have cA3 := A.c3; have cA4 := A.c4; have cA5 := A.c5; have cA6 := A.c6; have cA7 := A.c7; have cA8 := A.c8; have cA9 := A.c9; have cA10 := A.c10; have cA11 := A.c11; have cA12 := A.c12
    go_wp2_with fail
    refine (sind_is p.se 0 99 true H2.out _).mono ?_; rintro e w2 ⟨rfl, hb⟩
    replace A := A.below hb
    replace B := B.trans (hb.mono (by have := B.size; simp <;> omega))
    clear hb lA cA0 cA1 cA2 cA3 cA4 cA5 cA6 cA7 cA8 cA9 cA10 cA11 cA12
    have lA := A.lt; have cA0 := A.c0; have cA1 := A.c1; have cA2 := A.c2; have cA3 := A.c3; have cA4 := A.c4; have cA5 := A.c5; have cA6 := A.c6; have cA7 := A.c7; have cA8 := A.c8; have cA9 := A.c9; have cA10 := A.c10; have cA11 := A.c11; have cA12 := A.c12
    go_wp2_with fail
    refine (sind_is p.f 0 1000000 true H3.out _).mono ?_; rintro e w3 ⟨rfl, hb⟩
    replace A := A.below hb
    replace B := B.trans (hb.mono (by have := B.size; simp <;> omega))
    clear hb lA cA0 cA1 cA2 cA3 cA4 cA5 cA6 cA7 cA8 cA9 cA10 cA11 cA12
    have lA := A.lt; have cA0 := A.c0; have cA1 := A.c1; have cA2 := A.c2; have cA3 := A.c3; have cA4 := A.c4; have cA5 := A.c5; have cA6 := A.c6; have cA7 := A.c7; have cA8 := A.c8; have cA9 := A.c9; have cA10 := A.c10; have cA11 := A.c11; have cA12 := A.c12
    go_wp2_with fail
    refine (sind_is p.oc (-2) 2 true H4.out _).mono ?_; rintro e w4 ⟨rfl, hb⟩
    replace A := A.below hb
    replace B := B.trans (hb.mono (by have := B.size; simp <;> omega))
    clear hb lA cA0 cA1 cA2 cA3 cA4 cA5 cA6 cA7 cA8 cA9 cA10 cA11 cA12
    have lA := A.lt; have cA0 := A.c0; have cA1 := A.c1; have cA2 := A.c2; have cA3 := A.c3; have cA4 := A.c4; have cA5 := A.c5; have cA6 := A.c6; have cA7 := A.c7; have cA8 := A.c8; have cA9 := A.c9; have cA10 := A.c10; have cA11 := A.c11; have cA12 := A.c12
    go_wp2_with fail
    refine (sind_is p.de 1 40 true H5.out _).mono ?_; rintro e w5 ⟨rfl, hb⟩
    replace A := A.below hb
    replace B := B.trans (hb.mono (by have := B.size; simp <;> omega))
    clear hb lA cA0 cA1 cA2 cA3 cA4 cA5 cA6 cA7 cA8 cA9 cA10 cA11 cA12
    have lA := A.lt; have cA0 := A.c0; have cA1 := A.c1; have cA2 := A.c2; have cA3 := A.c3; have cA4 := A.c4; have cA5 := A.c5; have cA6 := A.c6; have cA7 := A.c7; have cA8 := A.c8; have cA9 := A.c9; have cA10 := A.c10; have cA11 := A.c11; have cA12 := A.c12
    go_wp2_with fail
    refine (rshift_is p.ss p.sm true ⟨fun _ => H6.out, fun _ => rfl⟩ _).mono ?_; rintro e w6 ⟨rfl, hb⟩
    replace A := A.below hb
    replace B := B.trans (hb.mono (by have := B.size; simp <;> omega))
    clear hb lA cA0 cA1 cA2 cA3 cA4 cA5 cA6 cA7 cA8 cA9 cA10 cA11 cA12
    have lA := A.lt; have cA0 := A.c0; have cA1 := A.c1; have cA2 := A.c2; have cA3 := A.c3; have cA4 := A.c4; have cA5 := A.c5; have cA6 := A.c6; have cA7 := A.c7; have cA8 := A.c8; have cA9 := A.c9; have cA10 := A.c10; have cA11 := A.c11; have cA12 := A.c12
    go_wp2_with fail
    refine (rpv p.ls p.la p.lo true ⟨fun _ => H7.out, fun _ => rfl⟩ _).mono ?_; rintro e w7 ⟨rfl, hb⟩
    replace A := A.below hb
    replace B := B.trans (hb.mono (by have := B.size; simp <;> omega))
    clear hb lA cA0 cA1 cA2 cA3 cA4 cA5 cA6 cA7 cA8 cA9 cA10 cA11 cA12
    have lA := A.lt; have cA0 := A.c0; have cA1 := A.c1; have cA2 := A.c2; have cA3 := A.c3; have cA4 := A.c4; have cA5 := A.c5; have cA6 := A.c6; have cA7 := A.c7; have cA8 := A.c8; have cA9 := A.c9; have cA10 := A.c10; have cA11 := A.c11; have cA12 := A.c12
    go_wp2_with fail
    refine (rpv p.hs p.ha p.ho false ⟨(fun h => by cases h), fun h => absurd h H8.out⟩ _).mono ?_; rintro e w8 ⟨rfl, hb⟩
    replace A := A.below hb
    replace B := B.trans (hb.mono (by have := B.size; simp <;> omega))
    clear hb lA cA0 cA1 cA2 cA3 cA4 cA5 cA6 cA7 cA8 cA9 cA10 cA11 cA12
    have lA := A.lt; have cA0 := A.c0; have cA1 := A.c1; have cA2 := A.c2; have cA3 := A.c3; have cA4 := A.c4; have cA5 := A.c5; have cA6 := A.c6; have cA7 := A.c7; have cA8 := A.c8; have cA9 := A.c9; have cA10 := A.c10; have cA11 := A.c11; have cA12 := A.c12
    go_wp2_with fail
    go_ret
    exact ⟨rfl, B⟩
  have H8 := Lib.hid q8
  by_cases b1 : p.f = p.id
  case pos =>
    obtain rfl : f = false := by cases f with
      | false => rfl
      | true => exact absurd b1 (h.1 rfl).2.2.2.2.2.2.2.2.1.1
    have bb : (p.f != p.id) = false := by simpa using b1
    clear h b1 q1 q2 q3 q4 q5 q6 q7 q8
    go_enter Tryz.func72, Tryz.ntmps72
    go_wp2_with fail
    have B := Below.refl w.heap.size w
    refine (sind_is p.id 1 1000000 true H1.out _).mono ?_; rintro e w1 ⟨rfl, hb⟩
    have A := (PtB.new _ p).below hb
    replace B := (B.alloc (by have := B.size; simp <;> omega) _).trans (hb.mono (by have := B.size; simp <;> omega))
    clear hb
    have lA := A.lt; have cA0 := A.c0; have cA1 := A.c1; have cA2 := A.c2; have cA3 := A.c3; have cA4 := A.c4; have cA5 := A.c5; have cA6 := A.c6; have cA7 := A.c7; have cA8 := A.c8; have cA9 := A.c9; have cA10 := A.c10; have cA11 := A.c11; have cA12 := A.c12
    go_wp2_with fail
    refine (sind_is p.se 0 99 true H2.out _).mono ?_; rintro e w2 ⟨rfl, hb⟩
    replace A := A.below hb
    replace B := B.trans (hb.mono (by have := B.size; simp <;> omega))
    clear hb lA cA0 cA1 cA2 cA3 cA4 cA5 cA6 cA7 cA8 cA9 cA10 cA11 cA12
    have lA := A.lt; have cA0 := A.c0; have cA1 := A.c1; have cA2 := A.c2; have cA3 := A.c3; have cA4 := A.c4; have cA5 := A.c5; have cA6 := A.c6; have cA7 := A.c7; have cA8 := A.c8; have cA9 := A.c9; have cA10 := A.c10; have cA11 := A.c11; have cA12 := A.c12
    go_wp2_with fail
    refine (sind_is p.f 0 1000000 true H3.out _).mono ?_; rintro e w3 ⟨rfl, hb⟩
    replace A := A.below hb
    replace B := B.trans (hb.mono (by have := B.size; simp <;> omega))
    clear hb lA cA0 cA1 cA2 cA3 cA4 cA5 cA6 cA7 cA8 cA9 cA10 cA11 cA12
    have lA := A.lt; have cA0 := A.c0; have cA1 := A.c1; have cA2 := A.c2; have cA3 := A.c3; have cA4 := A.c4; have cA5 := A.c5; have cA6 := A.c6; have cA7 := A.c7; have cA8 := A.c8; have cA9 := A.c9; have cA10 := A.c10; have cA11 := A.c11; have cA12 := A.c12
    go_wp2_with fail
    refine (sind_is p.oc (-2) 2 true H4.out _).mono ?_; rintro e w4 ⟨rfl, hb⟩
    replace A := A.below hb
    replace B := B.trans (hb.mono (by have := B.size; simp <;> omega))
    clear hb lA cA0 cA1 cA2 cA3 cA4 cA5 cA6 cA7 cA8 cA9 cA10 cA11 cA12
    have lA := A.lt; have cA0 := A.c0; have cA1 := A.c1; have cA2 := A.c2; have cA3 := A.c3; have cA4 := A.c4; have cA5 := A.c5; have cA6 := A.c6; have cA7 := A.c7; have cA8 := A.c8; have cA9 := A.c9; have cA10 := A.c10; have cA11 := A.c11; have cA12 := A.c12
    go_wp2_with fail
    refine (sind_is p.de 1 40 true H5.out _).mono ?_; rintro e w5 ⟨rfl, hb⟩
    replace A := A.below hb
    replace B := B.trans (hb.mono (by have := B.size; simp <;> omega))
    clear hb lA cA0 cA1 cA2 cA3 cA4 cA5 cA6 cA7 cA8 cA9 cA10 cA11 cA12
    have lA := A.lt; have cA0 := A.c0; have cA1 := A.c1; have cA2 := A.c2; have cA3 := A.c3; have cA4 := A.c4; have cA5 := A.c5; have cA6 := A.c6; have cA7 := A.c7; have cA8 := A.c8; have cA9 := A.c9; have cA10 := A.c10; have cA11 := A.c11; have cA12 := A.c12
    go_wp2_with fail
    refine (rshift_is p.ss p.sm true ⟨fun _ => H6.out, fun _ => rfl⟩ _).mono ?_; rintro e w6 ⟨rfl, hb⟩
    replace A := A.below hb
    replace B := B.trans (hb.mono (by have := B.size; simp <;> omega))
    clear hb lA cA0 cA1 cA2 cA3 cA4 cA5 cA6 cA7 cA8 cA9 cA10 cA11 cA12
    have lA := A.lt; have cA0 := A.c0; have cA1 := A.c1; have cA2 := A.c2; have cA3 := A.c3; have cA4 := A.c4; have cA5 := A.c5; have cA6 := A.c6; have cA7 := A.c7; have cA8 := A.c8; have cA9 := A.c9; have cA10 := A.c10; have cA11 := A.c11; have cA12 := A.c12
    go_wp2_with fail
    refine (rpv p.ls p.la p.lo true ⟨fun _ => H7.out, fun _ => rfl⟩ _).mono ?_; rintro e w7 ⟨rfl, hb⟩
    replace A := A.below hb
    replace B := B.trans (hb.mono (by have := B.size; simp <;> omega))
    clear hb lA cA0 cA1 cA2 cA3 cA4 cA5 cA6 cA7 cA8 cA9 cA10 cA11 cA12
    have lA := A.lt; have cA0 := A.c0; have cA1 := A.c1; have cA2 := A.c2; have cA3 := A.c3; have cA4 := A.c4; have cA5 := A.c5; have cA6 := A.c6; have cA7 := A.c7; have cA8 := A.c8; have cA9 := A.c9; have cA10 := A.c10; have cA11 := A.c11; have cA12 := A.c12
    go_wp2_with fail
    refine (rpv p.hs p.ha p.ho true ⟨fun _ => H8.out, fun _ => rfl⟩ _).mono ?_; rintro e w8 ⟨rfl, hb⟩
    replace A := A.below hb
    replace B := B.trans (hb.mono (by have := B.size; simp <;> omega))
    clear hb lA cA0 cA1 cA2 cA3 cA4 cA5 cA6 cA7 cA8 cA9 cA10 cA11 cA12
    have lA := A.lt; have cA0 := A.c0; have cA1 := A.c1; have cA2 := A.c2; have cA3 := A.c3; have cA4 := A.c4; have cA5 := A.c5; have cA6 := A.c6; have cA7 := A.c7; have cA8 := A.c8; have cA9 := A.c9; have cA10 := A.c10; have cA11 := A.c11; have cA12 := A.c12
    clear lA cA0 cA1 cA2 cA3 cA4 cA5 cA6 cA7 cA8 cA9 cA10 cA11 cA12
    go_wp2_with fail
    have x0 := fun y : Ext w8 => y.cell A.c0; have x2 := fun y : Ext w8 => y.cell A.c2; have x3 := fun y : Ext w8 => y.cell A.c3
    have hne := Ext.there w8
    clear A
    refine Ext.region (by kernel_rfl) (by kernel_rfl) ?_
    repeat (go_big_quiet_step (fail))
    refine wpQuiet_nil ?_
    rintro _ ⟨xw, rfl⟩
    replace B := B.trans (xw.h.mono B.size)
    clear x0 x2 x3 hne
    generalize xw.w = w9 at *
    clear xw
    go_wp2_with fail
    go_ret
    exact ⟨rfl, B⟩
  have bb : (p.f != p.id) = true := by simpa using b1
  by_cases b2 : p.f = 0
  case pos =>
    have bz : (p.f != 0) = false := by simpa using b2
    by_cases b3 : p.oc = 0
    case neg =>
      obtain rfl : f = false := by cases f with
        | false => rfl
        | true => exact absurd ((h.1 rfl).2.2.2.2.2.2.2.2.1.2) (fun x => x.elim (fun y => y b2) b3)
      have bo : (p.oc == 0) = false := by simpa using b3
      clear h b1 b2 b3 q1 q2 q3 q4 q5 q6 q7 q8
      go_enter Tryz.func72, Tryz.ntmps72
      go_wp2_with fail
      have B := Below.refl w.heap.size w
      refine (sind_is p.id 1 1000000 true H1.out _).mono ?_; rintro e w1 ⟨rfl, hb⟩
      have A := (PtB.new _ p).below hb
      replace B := (B.alloc (by have := B.size; simp <;> omega) _).trans (hb.mono (by have := B.size; simp <;> omega))
      clear hb
      have lA := A.lt; have cA0 := A.c0; have cA1 := A.c1; have cA2 := A.c2; have cA3 := A.c3; have cA4 := A.c4; have cA5 := A.c5; have cA6 := A.c6; have cA7 := A.c7; have cA8 := A.c8; have cA9 := A.c9; have cA10 := A.c10; have cA11 := A.c11; have cA12 := A.c12
      go_wp2_with fail
      refine (sind_is p.se 0 99 true H2.out _).mono ?_; rintro e w2 ⟨rfl, hb⟩
      replace A := A.below hb
      replace B := B.trans (hb.mono (by have := B.size; simp <;> omega))
      clear hb lA cA0 cA1 cA2 cA3 cA4 cA5 cA6 cA7 cA8 cA9 cA10 cA11 cA12
      have lA := A.lt; have cA0 := A.c0; have cA1 := A.c1; have cA2 := A.c2; have cA3 := A.c3; have cA4 := A.c4; have cA5 := A.c5; have cA6 := A.c6; have cA7 := A.c7; have cA8 := A.c8; have cA9 := A.c9; have cA10 := A.c10; have cA11 := A.c11; have cA12 := A.c12
      go_wp2_with fail
      refine (sind_is p.f 0 1000000 true H3.out _).mono ?_; rintro e w3 ⟨rfl, hb⟩
      replace A := A.below hb
      replace B := B.trans (hb.mono (by have := B.size; simp <;> omega))
      clear hb lA cA0 cA1 cA2 cA3 cA4 cA5 cA6 cA7 cA8 cA9 cA10 cA11 cA12
      have lA := A.lt; have cA0 := A.c0; have cA1 := A.c1; have cA2 := A.c2; have cA3 := A.c3; have cA4 := A.c4; have cA5 := A.c5; have cA6 := A.c6; have cA7 := A.c7; have cA8 := A.c8; have cA9 := A.c9; have cA10 := A.c10; have cA11 := A.c11; have cA12 := A.c12
      go_wp2_with fail
      refine (sind_is p.oc (-2) 2 true H4.out _).mono ?_; rintro e w4 ⟨rfl, hb⟩
      replace A := A.below hb
      replace B := B.trans (hb.mono (by have := B.size; simp <;> omega))
      clear hb lA cA0 cA1 cA2 cA3 cA4 cA5 cA6 cA7 cA8 cA9 cA10 cA11 cA12
      have lA := A.lt; have cA0 := A.c0; have cA1 := A.c1; have cA2 := A.c2; have cA3 := A.c3; have cA4 := A.c4; have cA5 := A.c5; have cA6 := A.c6; have cA7 := A.c7; have cA8 := A.c8; have cA9 := A.c9; have cA10 := A.c10; have cA11 := A.c11; have cA12 := A.c12
      go_wp2_with fail
      refine (sind_is p.de 1 40 true H5.out _).mono ?_; rintro e w5 ⟨rfl, hb⟩
      replace A := A.below hb
      replace B := B.trans (hb.mono (by have := B.size; simp <;> omega))
      clear hb lA cA0 cA1 cA2 cA3 cA4 cA5 cA6 cA7 cA8 cA9 cA10 cA11 cA12
      have lA := A.lt; have cA0 := A.c0; have cA1 := A.c1; have cA2 := A.c2; have cA3 := A.c3; have cA4 := A.c4; have cA5 := A.c5; have cA6 := A.c6; have cA7 := A.c7; have cA8 := A.c8; have cA9 := A.c9; have cA10 := A.c10; have cA11 := A.c11; have cA12 := A.c12
      go_wp2_with fail
      refine (rshift_is p.ss p.sm true ⟨fun _ => H6.out, fun _ => rfl⟩ _).mono ?_; rintro e w6 ⟨rfl, hb⟩
      replace A := A.below hb
      replace B := B.trans (hb.mono (by have := B.size; simp <;> omega))
      clear hb lA cA0 cA1 cA2 cA3 cA4 cA5 cA6 cA7 cA8 cA9 cA10 cA11 cA12
      have lA := A.lt; have cA0 := A.c0; have cA1 := A.c1; have cA2 := A.c2; have cA3 := A.c3; have cA4 := A.c4; have cA5 := A.c5; have cA6 := A.c6; have cA7 := A.c7; have cA8 := A.c8; have cA9 := A.c9; have cA10 := A.c10; have cA11 := A.c11; have cA12 := A.c12
      go_wp2_with fail
      refine (rpv p.ls p.la p.lo true ⟨fun _ => H7.out, fun _ => rfl⟩ _).mono ?_; rintro e w7 ⟨rfl, hb⟩
      replace A := A.below hb
      replace B := B.trans (hb.mono (by have := B.size; simp <;> omega))
      clear hb lA cA0 cA1 cA2 cA3 cA4 cA5 cA6 cA7 cA8 cA9 cA10 cA11 cA12
      have lA := A.lt; have cA0 := A.c0; have cA1 := A.c1; have cA2 := A.c2; have cA3 := A.c3; have cA4 := A.c4; have cA5 := A.c5; have cA6 := A.c6; have cA7 := A.c7; have cA8 := A.c8; have cA9 := A.c9; have cA10 := A.c10; have cA11 := A.c11; have cA12 := A.c12
      go_wp2_with fail
      refine (rpv p.hs p.ha p.ho true ⟨fun _ => H8.out, fun _ => rfl⟩ _).mono ?_; rintro e w8 ⟨rfl, hb⟩
      replace A := A.below hb
      replace B := B.trans (hb.mono (by have := B.size; simp <;> omega))
      clear hb lA cA0 cA1 cA2 cA3 cA4 cA5 cA6 cA7 cA8 cA9 cA10 cA11 cA12
      have lA := A.lt; have cA0 := A.c0; have cA1 := A.c1; have cA2 := A.c2; have cA3 := A.c3; have cA4 := A.c4; have cA5 := A.c5; have cA6 := A.c6; have cA7 := A.c7; have cA8 := A.c8; have cA9 := A.c9; have cA10 := A.c10; have cA11 := A.c11; have cA12 := A.c12
      clear lA cA0 cA1 cA2 cA3 cA4 cA5 cA6 cA7 cA8 cA9 cA10 cA11 cA12
      go_wp2_with fail
      have x0 := fun y : Ext w8 => y.cell A.c0; have x2 := fun y : Ext w8 => y.cell A.c2; have x3 := fun y : Ext w8 => y.cell A.c3
      have hne := Ext.there w8
      clear A
      refine Ext.region (by kernel_rfl) (by kernel_rfl) ?_
      repeat (go_big_quiet_step (fail))
      refine wpQuiet_nil ?_
      rintro _ ⟨xw, rfl⟩
      replace B := B.trans (xw.h.mono B.size)
      clear x0 x2 x3 hne
      generalize xw.w = w9 at *
      clear xw
      go_wp2_with fail
      go_ret
      exact ⟨rfl, B⟩
    have bo : (p.oc == 0) = true := by simpa using b3
    obtain ⟨N1, hN1⟩ : ∃ N1, Sc.num p.ls p.la p.lo = N1 := ⟨_, rfl⟩
    obtain ⟨N2, hN2⟩ : ∃ N2, Sc.num p.hs p.ha p.ho = N2 := ⟨_, rfl⟩
    rw [hN1, hN2] at h
    have HN1 := Lib.hid hN1; have HN2 := Lib.hid hN2
    obtain rfl : f = decide (N1 ≤ N2) := by rw [Bool.eq_iff_iff, h, decide_eq_true_eq]; exact ⟨fun x => x.2.2.2.2.2.2.2.2.2, fun x => ⟨q1, q2, q3, q4, q5, q6, q7, q8, ⟨b1, .inr b3⟩, x⟩⟩
    clear h b1 b2 b3 hN1 hN2 q1 q2 q3 q4 q5 q6 q7 q8
    go_enter Tryz.func72, Tryz.ntmps72
    go_wp2_with fail
    have B := Below.refl w.heap.size w
    refine (sind_is p.id 1 1000000 true H1.out _).mono ?_; rintro e w1 ⟨rfl, hb⟩
    have A := (PtB.new _ p).below hb
    replace B := (B.alloc (by have := B.size; simp <;> omega) _).trans (hb.mono (by have := B.size; simp <;> omega))
    clear hb
    have lA := A.lt; have cA0 := A.c0; have cA1 := A.c1; have cA2 := A.c2; have cA3 := A.c3; have cA4 := A.c4; have cA5 := A.c5; have cA6 := A.c6; have cA7 := A.c7; have cA8 := A.c8; have cA9 := A.c9; have cA10 := A.c10; have cA11 := A.c11; have cA12 := A.c12
    go_wp2_with fail
    refine (sind_is p.se 0 99 true H2.out _).mono ?_; rintro e w2 ⟨rfl, hb⟩
    replace A := A.below hb
    replace B := B.trans (hb.mono (by have := B.size; simp <;> omega))
    clear hb lA cA0 cA1 cA2 cA3 cA4 cA5 cA6 cA7 cA8 cA9 cA10 cA11 cA12
    have lA := A.lt; have cA0 := A.c0; have cA1 := A.c1; have cA2 := A.c2; have cA3 := A.c3; have cA4 := A.c4; have cA5 := A.c5; have cA6 := A.c6; have cA7 := A.c7; have cA8 := A.c8; have cA9 := A.c9; have cA10 := A.c10; have cA11 := A.c11; have cA12 := A.c12
    go_wp2_with fail
    refine (sind_is p.f 0 1000000 true H3.out _).mono ?_; rintro e w3 ⟨rfl, hb⟩
    replace A := A.below hb
    replace B := B.trans (hb.mono (by have := B.size; simp <;> omega))
    clear hb lA cA0 cA1 cA2 cA3 cA4 cA5 cA6 cA7 cA8 cA9 cA10 cA11 cA12
    have lA := A.lt; have cA0 := A.c0; have cA1 := A.c1; have cA2 := A.c2; have cA3 := A.c3; have cA4 := A.c4; have cA5 := A.c5; have cA6 := A.c6; have cA7 := A.c7; have cA8 := A.c8; have cA9 := A.c9; have cA10 := A.c10; have cA11 := A.c11; have cA12 := A.c12
    go_wp2_with fail
    refine (sind_is p.oc (-2) 2 true H4.out _).mono ?_; rintro e w4 ⟨rfl, hb⟩
    replace A := A.below hb
    replace B := B.trans (hb.mono (by have := B.size; simp <;> omega))
    clear hb lA cA0 cA1 cA2 cA3 cA4 cA5 cA6 cA7 cA8 cA9 cA10 cA11 cA12
    have lA := A.lt; have cA0 := A.c0; have cA1 := A.c1; have cA2 := A.c2; have cA3 := A.c3; have cA4 := A.c4; have cA5 := A.c5; have cA6 := A.c6; have cA7 := A.c7; have cA8 := A.c8; have cA9 := A.c9; have cA10 := A.c10; have cA11 := A.c11; have cA12 := A.c12
    go_wp2_with fail
    refine (sind_is p.de 1 40 true H5.out _).mono ?_; rintro e w5 ⟨rfl, hb⟩
    replace A := A.below hb
    replace B := B.trans (hb.mono (by have := B.size; simp <;> omega))
    clear hb lA cA0 cA1 cA2 cA3 cA4 cA5 cA6 cA7 cA8 cA9 cA10 cA11 cA12
    have lA := A.lt; have cA0 := A.c0; have cA1 := A.c1; have cA2 := A.c2; have cA3 := A.c3; have cA4 := A.c4; have cA5 := A.c5; have cA6 := A.c6; have cA7 := A.c7; have cA8 := A.c8; have cA9 := A.c9; have cA10 := A.c10; have cA11 := A.c11; have cA12 := A.c12
    go_wp2_with fail
    refine (rshift_is p.ss p.sm true ⟨fun _ => H6.out, fun _ => rfl⟩ _).mono ?_; rintro e w6 ⟨rfl, hb⟩
    replace A := A.below hb
    replace B := B.trans (hb.mono (by have := B.size; simp <;> omega))
    clear hb lA cA0 cA1 cA2 cA3 cA4 cA5 cA6 cA7 cA8 cA9 cA10 cA11 cA12
    have lA := A.lt; have cA0 := A.c0; have cA1 := A.c1; have cA2 := A.c2; have cA3 := A.c3; have cA4 := A.c4; have cA5 := A.c5; have cA6 := A.c6; have cA7 := A.c7; have cA8 := A.c8; have cA9 := A.c9; have cA10 := A.c10; have cA11 := A.c11; have cA12 := A.c12
    go_wp2_with fail
    refine (rpv p.ls p.la p.lo true ⟨fun _ => H7.out, fun _ => rfl⟩ _).mono ?_; rintro e w7 ⟨rfl, hb⟩
    replace A := A.below hb
    replace B := B.trans (hb.mono (by have := B.size; simp <;> omega))
    clear hb lA cA0 cA1 cA2 cA3 cA4 cA5 cA6 cA7 cA8 cA9 cA10 cA11 cA12
    have lA := A.lt; have cA0 := A.c0; have cA1 := A.c1; have cA2 := A.c2; have cA3 := A.c3; have cA4 := A.c4; have cA5 := A.c5; have cA6 := A.c6; have cA7 := A.c7; have cA8 := A.c8; have cA9 := A.c9; have cA10 := A.c10; have cA11 := A.c11; have cA12 := A.c12
    go_wp2_with fail
    refine (rpv p.hs p.ha p.ho true ⟨fun _ => H8.out, fun _ => rfl⟩ _).mono ?_; rintro e w8 ⟨rfl, hb⟩
    replace A := A.below hb
    replace B := B.trans (hb.mono (by have := B.size; simp <;> omega))
    clear hb lA cA0 cA1 cA2 cA3 cA4 cA5 cA6 cA7 cA8 cA9 cA10 cA11 cA12
    have lA := A.lt; have cA0 := A.c0; have cA1 := A.c1; have cA2 := A.c2; have cA3 := A.c3; have cA4 := A.c4; have cA5 := A.c5; have cA6 := A.c6; have cA7 := A.c7; have cA8 := A.c8; have cA9 := A.c9; have cA10 := A.c10; have cA11 := A.c11; have cA12 := A.c12
    clear lA cA0 cA1 cA2 cA3 cA4 cA5 cA6 cA7 cA8 cA9 cA10 cA11 cA12
    go_wp2_with fail
    have x0 := fun y : Ext w8 => y.cell A.c0; have x2 := fun y : Ext w8 => y.cell A.c2; have x3 := fun y : Ext w8 => y.cell A.c3; have x7 := fun y : Ext w8 => y.cell A.c7; have x8 := fun y : Ext w8 => y.cell A.c8; have x9 := fun y : Ext w8 => y.cell A.c9; have x10 := fun y : Ext w8 => y.cell A.c10; have x11 := fun y : Ext w8 => y.cell A.c11; have x12 := fun y : Ext w8 => y.cell A.c12
    have hne := Ext.there w8
    clear A
    refine Ext.region (by kernel_rfl) (by kernel_rfl) ?_
    repeat (go_big_quiet_step ((go_at_call 26; first | (with_reducible exact Ext.call _ (rsoundN_is p.ls p.la p.lo N1 HN1.out H7.out _)) | (with_reducible exact Ext.call _ (rsoundN_is p.hs p.ha p.ho N2 HN2.out H8.out _)))))
    refine wpQuiet_nil ?_
    rintro _ ⟨xw, rfl⟩
    replace B := B.trans (xw.h.mono B.size)
    clear x0 x2 x3 x7 x8 x9 x10 x11 x12 hne
    generalize xw.w = w9 at *
    clear xw
    go_wp2_with fail
    go_ret
    exact ⟨rfl, B⟩
  have bz : (p.f != 0) = true := by simpa using b2
  obtain ⟨N1, hN1⟩ : ∃ N1, Sc.num p.ls p.la p.lo = N1 := ⟨_, rfl⟩
  obtain ⟨N2, hN2⟩ : ∃ N2, Sc.num p.hs p.ha p.ho = N2 := ⟨_, rfl⟩
  rw [hN1, hN2] at h
  have HN1 := Lib.hid hN1; have HN2 := Lib.hid hN2
  obtain rfl : f = decide (N1 ≤ N2) := by rw [Bool.eq_iff_iff, h, decide_eq_true_eq]; exact ⟨fun x => x.2.2.2.2.2.2.2.2.2, fun x => ⟨q1, q2, q3, q4, q5, q6, q7, q8, ⟨b1, .inl b2⟩, x⟩⟩
  clear h b1 b2 hN1 hN2 q1 q2 q3 q4 q5 q6 q7 q8
  go_enter Tryz.func72, Tryz.ntmps72
  go_wp2_with fail
  have B := Below.refl w.heap.size w
  refine (sind_is p.id 1 1000000 true H1.out _).mono ?_; rintro e w1 ⟨rfl, hb⟩
  have A := (PtB.new _ p).below hb
  replace B := (B.alloc (by have := B.size; simp <;> omega) _).trans (hb.mono (by have := B.size; simp <;> omega))
  clear hb
  have lA := A.lt; have cA0 := A.c0; have cA1 := A.c1; have cA2 := A.c2; have cA3 := A.c3; have cA4 := A.c4; have cA5 := A.c5; have cA6 := A.c6; have cA7 := A.c7; have cA8 := A.c8; have cA9 := A.c9; have cA10 := A.c10; have cA11 := A.c11; have cA12 := A.c12
  go_wp2_with fail
  refine (sind_is p.se 0 99 true H2.out _).mono ?_; rintro e w2 ⟨rfl, hb⟩
  replace A := A.below hb
  replace B := B.trans (hb.mono (by have := B.size; simp <;> omega))
  clear hb lA cA0 cA1 cA2 cA3 cA4 cA5 cA6 cA7 cA8 cA9 cA10 cA11 cA12
  have lA := A.lt; have cA0 := A.c0; have cA1 := A.c1; have cA2 := A.c2; have cA3 := A.c3; have cA4 := A.c4; have cA5 := A.c5; have cA6 := A.c6; have cA7 := A.c7; have cA8 := A.c8; have cA9 := A.c9; have cA10 := A.c10; have cA11 := A.c11; have cA12 := A.c12
  go_wp2_with fail
  refine (sind_is p.f 0 1000000 true H3.out _).mono ?_; rintro e w3 ⟨rfl, hb⟩
  replace A := A.below hb
  replace B := B.trans (hb.mono (by have := B.size; simp <;> omega))
  clear hb lA cA0 cA1 cA2 cA3 cA4 cA5 cA6 cA7 cA8 cA9 cA10 cA11 cA12
  have lA := A.lt; have cA0 := A.c0; have cA1 := A.c1; have cA2 := A.c2; have cA3 := A.c3; have cA4 := A.c4; have cA5 := A.c5; have cA6 := A.c6; have cA7 := A.c7; have cA8 := A.c8; have cA9 := A.c9; have cA10 := A.c10; have cA11 := A.c11; have cA12 := A.c12
  go_wp2_with fail
  refine (sind_is p.oc (-2) 2 true H4.out _).mono ?_; rintro e w4 ⟨rfl, hb⟩
  replace A := A.below hb
  replace B := B.trans (hb.mono (by have := B.size; simp <;> omega))
  clear hb lA cA0 cA1 cA2 cA3 cA4 cA5 cA6 cA7 cA8 cA9 cA10 cA11 cA12
  have lA := A.lt; have cA0 := A.c0; have cA1 := A.c1; have cA2 := A.c2; have cA3 := A.c3; have cA4 := A.c4; have cA5 := A.c5; have cA6 := A.c6; have cA7 := A.c7; have cA8 := A.c8; have cA9 := A.c9; have cA10 := A.c10; have cA11 := A.c11; have cA12 := A.c12
  go_wp2_with fail
  refine (sind_is p.de 1 40 true H5.out _).mono ?_; rintro e w5 ⟨rfl, hb⟩
  replace A := A.below hb
  replace B := B.trans (hb.mono (by have := B.size; simp <;> omega))
  clear hb lA cA0 cA1 cA2 cA3 cA4 cA5 cA6 cA7 cA8 cA9 cA10 cA11 cA12
  have lA := A.lt; have cA0 := A.c0; have cA1 := A.c1; have cA2 := A.c2; have cA3 := A.c3; have cA4 := A.c4; have cA5 := A.c5; have cA6 := A.c6; have cA7 := A.c7; have cA8 := A.c8; have cA9 := A.c9; have cA10 := A.c10; have cA11 := A.c11; have cA12 := A.c12
  go_wp2_with fail
  refine (rshift_is p.ss p.sm true ⟨fun _ => H6.out, fun _ => rfl⟩ _).mono ?_; rintro e w6 ⟨rfl, hb⟩
  replace A := A.below hb
  replace B := B.trans (hb.mono (by have := B.size; simp <;> omega))
  clear hb lA cA0 cA1 cA2 cA3 cA4 cA5 cA6 cA7 cA8 cA9 cA10 cA11 cA12
  have lA := A.lt; have cA0 := A.c0; have cA1 := A.c1; have cA2 := A.c2; have cA3 := A.c3; have cA4 := A.c4; have cA5 := A.c5; have cA6 := A.c6; have cA7 := A.c7; have cA8 := A.c8; have cA9 := A.c9; have cA10 := A.c10; have cA11 := A.c11; have cA12 := A.c12
  go_wp2_with fail
  refine (rpv p.ls p.la p.lo true ⟨fun _ => H7.out, fun _ => rfl⟩ _).mono ?_; rintro e w7 ⟨rfl, hb⟩
  replace A := A.below hb
  replace B := B.trans (hb.mono (by have := B.size; simp <;> omega))
  clear hb lA cA0 cA1 cA2 cA3 cA4 cA5 cA6 cA7 cA8 cA9 cA10 cA11 cA12
  have lA := A.lt; have cA0 := A.c0; have cA1 := A.c1; have cA2 := A.c2; have cA3 := A.c3; have cA4 := A.c4; have cA5 := A.c5; have cA6 := A.c6; have cA7 := A.c7; have cA8 := A.c8; have cA9 := A.c9; have cA10 := A.c10; have cA11 := A.c11; have cA12 := A.c12
  go_wp2_with fail
  refine (rpv p.hs p.ha p.ho true ⟨fun _ => H8.out, fun _ => rfl⟩ _).mono ?_; rintro e w8 ⟨rfl, hb⟩
  replace A := A.below hb
  replace B := B.trans (hb.mono (by have := B.size; simp <;> omega))
  clear hb lA cA0 cA1 cA2 cA3 cA4 cA5 cA6 cA7 cA8 cA9 cA10 cA11 cA12
  have lA := A.lt; have cA0 := A.c0; have cA1 := A.c1; have cA2 := A.c2; have cA3 := A.c3; have cA4 := A.c4; have cA5 := A.c5; have cA6 := A.c6; have cA7 := A.c7; have cA8 := A.c8; have cA9 := A.c9; have cA10 := A.c10; have cA11 := A.c11; have cA12 := A.c12
  clear lA cA0 cA1 cA2 cA3 cA4 cA5 cA6 cA7 cA8 cA9 cA10 cA11 cA12
  go_wp2_with fail
  have x0 := fun y : Ext w8 => y.cell A.c0; have x2 := fun y : Ext w8 => y.cell A.c2; have x3 := fun y : Ext w8 => y.cell A.c3; have x7 := fun y : Ext w8 => y.cell A.c7; have x8 := fun y : Ext w8 => y.cell A.c8; have x9 := fun y : Ext w8 => y.cell A.c9; have x10 := fun y : Ext w8 => y.cell A.c10; have x11 := fun y : Ext w8 => y.cell A.c11; have x12 := fun y : Ext w8 => y.cell A.c12
  have hne := Ext.there w8
  clear A
  refine Ext.region (by kernel_rfl) (by kernel_rfl) ?_
  repeat (go_big_quiet_step ((go_at_call 26; first | (with_reducible exact Ext.call _ (rsoundN_is p.ls p.la p.lo N1 HN1.out H7.out _)) | (with_reducible exact Ext.call _ (rsoundN_is p.hs p.ha p.ho N2 HN2.out H8.out _)))))
  refine wpQuiet_nil ?_
  rintro _ ⟨xw, rfl⟩
  replace B := B.trans (xw.h.mono B.size)
  clear x0 x2 x3 x7 x8 x9 x10 x11 x12 hne
  generalize xw.w = w9 at *
  clear xw
  go_wp2_with fail
  go_ret
  exact ⟨rfl, B⟩
end Go.Proofs.YtbbjifhelbeniaaGreatDoor
