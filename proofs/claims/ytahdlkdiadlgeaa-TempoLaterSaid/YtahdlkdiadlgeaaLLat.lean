import Derived.Test.YtahdlkdiadlgeaaGBF
import Derived.Test.YtahdlkdiadlgeaaGAI
import Derived.Deep.DeepCutAuto
import Derived.Deep.CutRange
/- The walk of the law TempoLater. -/
namespace Go.Proofs.Ytahdlkdiadlgeaa
open Go.RowKit

set_option maxRecDepth 100000 in
set_option maxHeartbeats 51200000 in
theorem tempoLater_walk (n1 c1 : Nat) (A1 : Option Addr) (bs : List Mt.B) (h1 : bs.length = n1) (n2 c2 : Nat) (A2 : Option Addr) (l : List Fo.T3) (h2 : l.length = n2) (hcap : n2 ≤ c2) (_hc2 : c2 ≤ maxLen) (which : Int) (h3 : 0 ≤ which ∧ which < 256) (tN tD : Int) (a an ad : Int) (hwf : Mt.Wf bs) (w : World) (hB : SlB w A1 bs) (hL : SlT w A2 l) :
    Calls Try.prog 7 #[.slice A1 n1 c1, .slice A2 n2 c2, .int .u8 which, .agg #[.int .i64 tN, .int .i64 tD], .agg #[.int .i64 a, .int .i64 an, .int .i64 ad]] w fun e w' => e = .returned (.bool true) ∧ Below w.heap.size w w' := by
  have HWF := Lib.hid hwf
  clear hwf
  obtain ⟨ic, hi0, hz0, hz1, hz2⟩ := info_parts infoTempo
  have HI := Lib.hid (And.intro hi0 (And.intro hz0 (And.intro hz1 hz2)))
  obtain ⟨u, hu⟩ : ∃ u : Bool, u = true ↔ useT bs l n1 n2 := ⟨@decide _ (Classical.propDecidable _), @decide_eq_true_iff _ (Classical.propDecidable _)⟩
  obtain ⟨pa, hpa⟩ : ∃ x, Mt.posB bs a an ad = x := ⟨_, rfl⟩
  have HA := Lib.hid hpa
  have HU := Lib.hid hu; have HN1 := Lib.hid h1; have HN2 := Lib.hid h2; have HB := Lib.hid hB; have HL := Lib.hid hL
  have T := (Var2.new w tN tD 25).alloc (.cells #[.int .i64 a, .int .i64 an, .int .i64 ad] 27)
  have P := Var3.new (w.alloc (.cells #[.int .i64 tN, .int .i64 tD] 25)) a an ad 27
  rw [World.size_alloc] at P
  have B := ((Below.refl w.heap.size w).alloc (Nat.le_refl _) (.cells #[.int .i64 tN, .int .i64 tD] 25)).alloc (by simp) (.cells #[.int .i64 a, .int .i64 an, .int .i64 ad] 27)
  clear hu h1 h2 hB hL hpa hi0 hz0 hz1 hz2
  go_enter Try.func7, Try.ntmps7
  go_wp2_with fail
  refine (head_any _).mono ?_; rintro e w1 ⟨rfl, hb⟩
  replace T := T.below hb; replace P := P.below hb; replace B := B.trans (hb.mono B.size); clear hb
  go_wp2_with fail
  refine (lusable_is bs l u n1 c1 n2 c2 A1 A2 HU.out HN1.out HN2.out _ (HB.out.below B) (HL.out.below B)).mono ?_; rintro e w2 ⟨rfl, hb⟩
  replace T := T.below hb; replace P := P.below hb; replace B := B.trans (hb.mono B.size); clear hb
  cases u with
  | false =>
    go_wp2_with fail
    go_ret
    exact ⟨rfl, B⟩
  | true =>
  have HV := Lib.hid (HU.out.1 rfl).2.2
  have hn40 : n1 ≤ 40 := (HU.out.1 rfl).1
  have hn60 : n2 ≤ 60 := (HU.out.1 rfl).2.1
  have p_0 := P.at3.c0; have p_1 := P.at3.c1; have p_2 := P.at3.c2; have p_l := P.at3.lt
  go_wp2_with fail
  clear p_0 p_1 p_2 p_l
  refine (kposition_is bs a an ad pa n1 c1 A1 HA.out HN1.out _ (HB.out.below B)).mono ?_; rintro e w3 ⟨rfl, hb⟩
  replace T := T.below hb; replace P := P.below hb; replace B := B.trans (hb.mono B.size); clear hb
  cases pa with
  | false =>
    go_wp2_with fail
    go_ret
    exact ⟨rfl, B⟩
  | true =>
  have hn2p : 1 ≤ n2 := by rw [← HN2.out]; exact HV.out.2.one
  obtain ⟨bb, off, rfl, hbb, hc⟩ := HL.out (by rw [HN2.out]; omega)
  have HC := Lib.hid hc
  have hz1 : ¬ (n2 : Int) = 0 := by omega
  have hz2 : ((n2 : Int) == 0) = false := by simpa using (show ¬ n2 = 0 by omega)
  obtain ⟨k, hk⟩ : ∃ k : Nat, which % (n2 : Int) = (k : Int) := ⟨(which % (n2 : Int)).toNat, by have := Int.emod_nonneg which hz1; omega⟩
  have hkn : k < n2 := by have := Int.emod_lt_of_pos which (show 0 < (n2 : Int) by omega); omega
  have hk2 : which.tmod (n2 : Int) = (k : Int) := by rw [Int.tmod_eq_emod_of_nonneg (by omega)]; exact hk
  have hk1c : k + 1 ≤ c2 := by omega
  have hkl : (k : Int) < ((k + 1 : Nat) : Int) := by omega
  have hkl2 : (k : Int) < (k : Int) + 1 := by omega
  have HKL : Hid (k < l.length) := Lib.hid (by rw [HN2.out]; exact hkn)
  clear hc hk
  have HOW : Hid ((w3.alloc (.cells #[] 38)).ownsRow w3.heap.size 38 3 (.slice (some ⟨w3.heap.size, 0, none⟩) 0 0) 0 []) := Lib.hid ⟨by simp, .inr ⟨w3.heap.size, 0, #[], rfl, Nat.le_refl _, heap_alloc_new w3 _, Nat.le_refl _, Nat.zero_le _, by simp, by simp⟩⟩
  have hT4 := T.at2.lt; have hP4 := P.at3.lt
  replace T := T.alloc (.cells #[] 38); replace P := P.alloc (.cells #[] 38); replace B := B.alloc B.size (.cells #[] 38)
  have t_0 := T.at2.c0
  have t_1 := T.at2.c1
  have t_l := T.at2.lt
  have p_0 := P.at3.c0
  have p_1 := P.at3.c1
  have p_2 := P.at3.c2
  have p_l := P.at3.lt
  go_wp2_with (first | (at_builtin; refine append_slt rfl _ _ 23 rfl w3.heap.size 38 ic (.agg #[.int .i64 0, .int .i64 0, .int .i64 0]) 24 Try.underlying23 HI.out.1 HI.out.2.1 HI.out.2.2.1 HI.out.2.2.2 rfl _ _ _ rfl HOW.out (some ⟨bb, off, none⟩) (k + 1) c2 (l.take (k + 1)) rfl (fun h => by cases h) (by rw [List.length_take]; have := HKL.out; omega) ((HL.out.below B).take (k + 1)) (by unfold maxLen; omega) (by omega) (by simp) ?_; intro y5 w5 hown5 hgr; clear t_0 t_1 t_l p_0 p_1 p_2 p_l; rw [Nat.zero_add, List.nil_append] at hown5; have HGR : Hid ((w3.alloc (.cells #[] 38)).grownBy w5 (some w3.heap.size)) := Lib.hid hgr; clear hgr; replace T := T.blk HGR.out.size (HGR.out.block _ T.at2.lt (by intro e8; have := Option.some.inj e8; omega)); replace P := P.blk HGR.out.size (HGR.out.block _ P.at3.lt (by intro e8; have := Option.some.inj e8; omega)); replace B := B.grown HGR.out B.size (fun j hj => by have := Option.some.inj hj; omega); obtain ⟨-, A5, cap5, rfl, -, -⟩ := own_T hown5; obtain ⟨g, rfl, hg0, hg1⟩ := own_openT9 hown5 (by omega); have HO5 := Lib.hid hown5; clear hown5; obtain ⟨r1, r2, r3, r4⟩ := own_cellQ HO5.out (k := k) (by rw [List.length_take]; have := HKL.out; omega); have t_0 := T.at2.c0; have t_1 := T.at2.c1; have t_l := T.at2.lt; have p_0 := P.at3.c0; have p_1 := P.at3.c1; have p_2 := P.at3.c2; have p_l := P.at3.lt) | fail)
  clear r1 r2 r3 r4 t_0 t_1 t_l p_0 p_1 p_2 p_l
  have hak : (Fo.at3 (l.take (k + 1)) k).a = (Fo.at3 l k).a := by unfold Fo.at3; rw [List.getElem?_take, if_pos (by omega)]
  have OR := own_putQ (t := tN) (d := tD) HO5.out (k := k) (by rw [List.length_take]; have := HKL.out; omega) hak
  replace T := (T.ne g (k * 3 + 1) (.int .i64 tN) (by omega)).ne g (k * 3 + 2) (.int .i64 tD) (by omega)
  replace P := (P.ne g (k * 3 + 1) (.int .i64 tN) (by omega)).ne g (k * 3 + 2) (.int .i64 tD) (by omega)
  replace B := (B.setCell (p := ⟨g, k * 3 + 1, none⟩) (show w.heap.size ≤ g by omega) (.int .i64 tN)).setCell (p := ⟨g, k * 3 + 2, none⟩) (show w.heap.size ≤ g by omega) (.int .i64 tD)
  obtain ⟨X, hX⟩ : ∃ X, (w5.setCell ⟨g, k * 3 + 1, none⟩ (.int .i64 tN)).setCell ⟨g, k * 3 + 2, none⟩ (.int .i64 tD) = X := ⟨_, rfl⟩
  rw [hX] at OR T P B
  rw [show k * 3 + 1 + 1 = k * 3 + 2 from rfl, hX]
  clear hX
  obtain ⟨-, _, _, e1, SO, -⟩ := own_T OR
  cases e1
  have HOL := Lib.hid (Te.oth_len HKL.out tN tD)
  replace SO : SlT X (some ⟨g, 0, none⟩) (Te.oth l k tN tD) := SO
  obtain ⟨uo, huo⟩ : ∃ u : Bool, u = true ↔ Te.Val bs (Te.oth l k tN tD) := ⟨@decide _ (Classical.propDecidable _), @decide_eq_true_iff _ (Classical.propDecidable _)⟩
  have HUO := Lib.hid huo
  clear huo OR hak
  refine (rtvalid_is bs (Te.oth l k tN tD) uo n1 c1 (k + 1) cap5 A1 _ HUO.out HN1.out HOL.out _ (HB.out.below B) SO).mono ?_; rintro e w4 ⟨rfl, hb⟩
  replace T := T.below hb; replace P := P.below hb; replace SO := SO.below hb; replace B := B.trans (hb.mono B.size); clear hb
  cases uo with
  | false =>
    go_wp2_with fail
    go_ret
    exact ⟨rfl, B⟩
  | true =>
  have HVO := Lib.hid (HUO.out.1 rfl)
  obtain ⟨N, D, E, S1⟩ := Te.secA_ex bs l 0 0 1 a an ad
  obtain ⟨cd, hcd⟩ : ∃ u : Bool, u = true ↔ (a < (Fo.at3 l k).a ∨ (a = (Fo.at3 l k).a ∧ an = 0)) := ⟨@decide _ (Classical.propDecidable _), @decide_eq_true_iff _ (Classical.propDecidable _)⟩
  obtain ⟨N2, D2, E2, S2, hsame⟩ : ∃ N2 D2 E2, Te.SecA bs (Te.oth l k tN tD) 0 0 1 a an ad N2 D2 E2 ∧ (cd = true → N2 = N ∧ D2 = D ∧ E2 = E) := by
    cases cd with
    | true => exact ⟨N, D, E, Te.sec_oth HV.out HKL.out tN tD HVO.out HA.out (hcd.1 rfl) S1, fun _ => ⟨rfl, rfl, rfl⟩⟩
    | false =>
      obtain ⟨N2, D2, E2, S2⟩ := Te.secA_ex bs (Te.oth l k tN tD) 0 0 1 a an ad
      exact ⟨N2, D2, E2, S2, fun h => by cases h⟩
  replace S1 := Lib.hid S1; replace S2 := Lib.hid S2; have HSAME := Lib.hid hsame; have HCD := Lib.hid hcd
  clear hsame hcd
  go_wp2_with fail
  refine (lrat_is 0 1 _).mono ?_; rintro e w5 ⟨rfl, hb⟩
  replace T := T.below hb; replace P := P.below hb; replace SO := SO.below hb; replace B := B.trans (hb.mono B.size); clear hb
  have S := Var3.new w5 0 0 1 27
  replace T := T.alloc (.cells #[.int .i64 0, .int .i64 0, .int .i64 1] 27); replace P := P.alloc (.cells #[.int .i64 0, .int .i64 0, .int .i64 1] 27); replace SO := SO.alloc (.cells #[.int .i64 0, .int .i64 0, .int .i64 1] 27); replace B := B.alloc B.size (.cells #[.int .i64 0, .int .i64 0, .int .i64 1] 27)
  have s_0 := S.at3.c0; have s_1 := S.at3.c1; have s_2 := S.at3.c2; have s_l := S.at3.lt
  have p_0 := P.at3.c0; have p_1 := P.at3.c1; have p_2 := P.at3.c2; have p_l := P.at3.lt
  go_wp2_with fail
  clear s_0 s_1 s_2 s_l p_0 p_1 p_2 p_l
  refine (wSeconds_is bs l 0 0 1 a an ad N D E S1.out n1 c1 n2 c2 A1 _ HN1.out HN2.out HWF.out _ (HB.out.below B) (HL.out.below B)).mono ?_; rintro e w6 ⟨rfl, hb⟩
  replace T := T.below hb; replace P := P.below hb; replace SO := SO.below hb; replace S := S.below hb; replace B := B.trans (hb.mono B.size); clear hb
  have RA := Var2.new w6 N D 25
  replace T := T.alloc (.cells #[.int .i64 N, .int .i64 D] 25); replace P := P.alloc (.cells #[.int .i64 N, .int .i64 D] 25); replace SO := SO.alloc (.cells #[.int .i64 N, .int .i64 D] 25); replace S := S.alloc (.cells #[.int .i64 N, .int .i64 D] 25); replace B := B.alloc B.size (.cells #[.int .i64 N, .int .i64 D] 25)
  have s_0 := S.at3.c0; have s_1 := S.at3.c1; have s_2 := S.at3.c2; have s_l := S.at3.lt
  have p_0 := P.at3.c0; have p_1 := P.at3.c1; have p_2 := P.at3.c2; have p_l := P.at3.lt
  go_wp2_with fail
  clear s_0 s_1 s_2 s_l p_0 p_1 p_2 p_l
  refine (wSeconds_is bs (Te.oth l k tN tD) 0 0 1 a an ad N2 D2 E2 S2.out n1 c1 (k + 1) cap5 A1 _ HN1.out HOL.out HWF.out _ (HB.out.below B) SO).mono ?_; rintro e w7 ⟨rfl, hb⟩
  replace T := T.below hb; replace P := P.below hb; replace SO := SO.below hb; replace S := S.below hb; replace RA := RA.below hb; replace B := B.trans (hb.mono B.size); clear hb
  have RB := Var2.new w7 N2 D2 25
  replace T := T.alloc (.cells #[.int .i64 N2, .int .i64 D2] 25); replace P := P.alloc (.cells #[.int .i64 N2, .int .i64 D2] 25); replace SO := SO.alloc (.cells #[.int .i64 N2, .int .i64 D2] 25); replace S := S.alloc (.cells #[.int .i64 N2, .int .i64 D2] 25); replace RA := RA.alloc (.cells #[.int .i64 N2, .int .i64 D2] 25); replace B := B.alloc B.size (.cells #[.int .i64 N2, .int .i64 D2] 25)
  go_wp2_with fail
  obtain ⟨wr, hwr⟩ : ∃ x, w7.alloc (.cells #[.int .i64 N2, .int .i64 D2] 25) = x := ⟨_, rfl⟩
  rw [hwr] at B T P SO S RA RB
  try rw [hwr]
  clear hwr
  obtain ⟨ak, hak⟩ : ∃ x, (Fo.at3 l k).a = x := ⟨_, rfl⟩
  have X0 := ((HC.out k HKL.out).below B hbb).c0
  rw [hak] at X0
  have HAK := Lib.hid hak
  have x0 := fun y : Ext wr => y.cell X0
  have hkn2 : (k : Int) < (n2 : Int) := by omega
  rw [hak] at HCD
  clear hak X0
  go_cut [102] (fun s102 wx => s102 = .bool cd ∧ Below wr.heap.size wr wx)
  case first =>
    by_cases m1 : a < ak
    · have m1' : decide (a < ak) = true := decide_eq_true m1
      obtain rfl : cd = true := HCD.out.2 (.inl m1)
      clear m1 HSAME HCD
      have hne := Ext.there wr
      have y0 := fun y : Ext wr => y.cell P.at3.c0; have y1 := fun y : Ext wr => y.cell P.at3.c1; have y2 := fun y : Ext wr => y.cell P.at3.c2
      refine Ext.region (by kernel_rfl) (by kernel_rfl) ?_
      repeat (go_big_quiet_step (fail))
      refine wpQuiet_nil ?_
      rintro _ ⟨xw, rfl⟩
      have hb := xw.h
      clear x0 y0 y1 y2 hne
      generalize xw.w = w40 at *
      clear xw
      go_wp2_with fail
      go_meet
      exact ⟨rfl, hb⟩
    have m1' : decide (a < ak) = false := decide_eq_false m1
    by_cases m2 : a = ak
    case neg =>
      have m2' : (a == ak) = false := by simpa using m2
      obtain rfl : cd = false := by
        cases cd with
        | false => rfl
        | true => exact absurd (HCD.out.1 rfl) (by omega)
      clear m1 m2 HSAME HCD
      have hne := Ext.there wr
      have y0 := fun y : Ext wr => y.cell P.at3.c0; have y1 := fun y : Ext wr => y.cell P.at3.c1; have y2 := fun y : Ext wr => y.cell P.at3.c2
      refine Ext.region (by kernel_rfl) (by kernel_rfl) ?_
      repeat (go_big_quiet_step (fail))
      refine wpQuiet_nil ?_
      rintro _ ⟨xw, rfl⟩
      have hb := xw.h
      clear x0 y0 y1 y2 hne
      generalize xw.w = w40 at *
      clear xw
      go_wp2_with fail
      go_meet
      exact ⟨rfl, hb⟩
    case pos =>
    have m2' : (a == ak) = true := by simpa using m2
    by_cases m3 : an = 0
    · have m3' : (an == 0) = true := by simpa using m3
      obtain rfl : cd = true := HCD.out.2 (.inr ⟨m2, m3⟩)
      clear m1 m2 m3 HSAME HCD
      have hne := Ext.there wr
      have y0 := fun y : Ext wr => y.cell P.at3.c0; have y1 := fun y : Ext wr => y.cell P.at3.c1; have y2 := fun y : Ext wr => y.cell P.at3.c2
      refine Ext.region (by kernel_rfl) (by kernel_rfl) ?_
      repeat (go_big_quiet_step (fail))
      refine wpQuiet_nil ?_
      rintro _ ⟨xw, rfl⟩
      have hb := xw.h
      clear x0 y0 y1 y2 hne
      generalize xw.w = w40 at *
      clear xw
      go_wp2_with fail
      go_meet
      exact ⟨rfl, hb⟩
    · have m3' : (an == 0) = false := by simpa using m3
      obtain rfl : cd = false := by
        cases cd with
        | false => rfl
        | true => exact absurd (HCD.out.1 rfl) (by omega)
      clear m1 m2 m3 HSAME HCD
      have hne := Ext.there wr
      have y0 := fun y : Ext wr => y.cell P.at3.c0; have y1 := fun y : Ext wr => y.cell P.at3.c1; have y2 := fun y : Ext wr => y.cell P.at3.c2
      refine Ext.region (by kernel_rfl) (by kernel_rfl) ?_
      repeat (go_big_quiet_step (fail))
      refine wpQuiet_nil ?_
      rintro _ ⟨xw, rfl⟩
      have hb := xw.h
      clear x0 y0 y1 y2 hne
      generalize xw.w = w40 at *
      clear xw
      go_wp2_with fail
      go_meet
      exact ⟨rfl, hb⟩
  obtain ⟨rfl, hb⟩ := hcut
  clear x0
  replace T := T.below hb; replace P := P.below hb; replace SO := SO.below hb; replace S := S.below hb; replace RA := RA.below hb; replace RB := RB.below hb; replace B := B.trans (hb.mono B.size); clear hb
  go_upto_if 102 with (fail)
  go_cut [11] (fun s11 wx => s11 = .bool true ∧ wx = wc)
  case first =>
    cases cd with
    | false =>
      go_wp2_with fail
      go_meet
      exact ⟨rfl, rfl⟩
    | true =>
      obtain ⟨rfl, rfl, rfl⟩ := HSAME.out rfl
      have heq := fun W => eqRatT N2 D2 N2 D2 true ⟨fun _ => ⟨rfl, rfl⟩, fun _ => rfl⟩ W
      have ra_0 := RA.at2.c0; have ra_1 := RA.at2.c1; have rb_0 := RB.at2.c0; have rb_1 := RB.at2.c1
      go_wp2_with fail
      go_meet
      exact ⟨rfl, rfl⟩
  obtain ⟨rfl, rfl⟩ := hcut
  clear RA RB S P
  have HZ0 : Hid (∀ {wx : World}, Below w.heap.size w wx → TAt wx bb off (Fo.at3 l 0)) := Lib.hid (fun hb => by
    have := (HC.out 0 (by rw [HN2.out]; omega)).below hb hbb
    rwa [Nat.zero_mul, Nat.add_zero] at this)
  obtain ⟨zb, hzb⟩ : ∃ x, (Fo.at3 l 0).b = x := ⟨_, rfl⟩
  obtain ⟨zc, hzc⟩ : ∃ x, (Fo.at3 l 0).c = x := ⟨_, rfl⟩
  have HZB := Lib.hid (And.intro hzb hzc)
  clear hzb hzc
  go_wp2_with fail
  go_loopw [11, 116] (fun s11 s116 wq => ∃ (i : Nat) (q : Int), i ≤ n1 ∧ q = i ∧ s116 = .int .i64 q ∧ s11 = .bool true ∧ SlT wq (some ⟨g, 0, none⟩) (Te.oth l k tN tD) ∧ Var2 wq w.heap.size tN tD ∧ Below w.heap.size w wq) (fun _ s116 _ => n1 - (intOf s116).toNat)
  case atStart => exact ⟨0, 0, Nat.zero_le _, rfl, rfl, rfl, SO, T, B⟩
  case round =>
    clear SO T B
    obtain ⟨i, q, hi, hq, rfl, rfl, SO, T, B⟩ := hrel
    have HQ := Lib.hid hq
    have hq0 : 0 ≤ q := by omega
    have hqm : q ≤ 40 := by omega
    by_cases hlt : i < n1
    case neg =>
      have hq1 : ¬ q < (n1 : Int) := by omega
      have hvt : Rt.vld tN tD = true := by
        have h9 := HVO.out.2.vld (i := k) (by rw [HOL.out]; omega)
        rwa [Te.oth_k HKL.out] at h9
      have t_0 := T.at2.c0; have t_1 := T.at2.c1
      clear hq hlt
      go_wp2_with fail
      refine (rvalid_is tN tD true hvt _).mono ?_; rintro e w60 ⟨rfl, hb⟩
      have BZ := B.trans (hb.mono B.size)
      go_wp2_with fail
      go_ret
      exact ⟨rfl, BZ⟩
    case pos =>
    have hq1 : q < (n1 : Int) := by omega
    have HLT := Lib.hid hlt
    clear hq hlt
    go_upto_region 17 with (fail)
    go_cut [20, 21] from 117 to 177 (fun s20 s21 wx => ∃ x m, s20 = .pointer (some ⟨m, 0, none⟩) ∧ s21 = .pointer (some ⟨x, 0, none⟩) ∧ wr.heap.size ≤ x ∧ wr.heap.size ≤ m ∧ x ≠ m ∧ Var2 wx m zb zc ∧ Var2 wx x tN tD ∧ Below wr.heap.size wr wx)
    case first =>
      have Z := HZ0.out B
      have z1 := Z.c1; have z2 := Z.c2
      rw [HZB.out.1] at z1
      rw [HZB.out.2] at z2
      have hl0 : (0 : Int) < (n2 : Int) := by omega
      have y1 := fun x : PfW (rgC wr zb zc) => (x.h.b.cell (p := ⟨bb, off + 1, none⟩) (show bb < wr.heap.size by have := B.size; omega)).trans z1
      have y2 := fun x : PfW (rgC wr zb zc) => (x.h.b.cell (p := ⟨bb, off + 2, none⟩) (show bb < wr.heap.size by have := B.size; omega)).trans z2
      have y3 := fun x : PfW (rgC wr zb zc) => (T.at2.below x.h.b).c0
      have y4 := fun x : PfW (rgC wr zb zc) => (T.at2.below x.h.b).c1
      have hne : Nonempty (PfW (rgC wr zb zc)) := PfW.there (w := wr) (rgC.start _ _ _ (Below.refl _ _))
      refine region_pf (cs := [5, 7]) (d := 6) (G := fun g => ∃ x, g = .pointer (some ⟨x, 0, none⟩) ∧ wr.heap.size ≤ x) (Cv := rgC wr zb zc) 8 ⟨_, _, rfl, Nat.le_refl _⟩ (by kernel_rfl) (by kernel_rfl) (by kernel_rfl) (rgC.start _ _ _ (Below.refl _ _).drew) ?_
      simp only [List.take_succ_cons, List.take_zero, List.drop_succ_cons, List.drop_zero]
      iterate 5 (refine pf_quiet (by decide) rfl rfl ?_; intro K' hK'; go_big_quiet_op; go_big_quiet_on)
      refine pf_made ⟨by decide, rfl⟩ rfl ⟨none, wr, rgC.start _ _ _ (Below.refl _ _)⟩ (fun og w' hw' => ⟨.pointer (some ⟨w'.heap.size, 0, none⟩), w'.alloc (.cells #[.int .i64 0, .int .i64 0] 25), ?_, hw'.one⟩) ?_
      · go_simp
      rintro v9 ⟨og1, w41, hw1⟩
      obtain ⟨m, rfl, hm, -, -⟩ := hw1.m v9 rfl
      obtain ⟨w42, -, hw2⟩ := hw1.put
      simp only [Act.put, List.setIfInBounds_toArray, List.set_cons_succ, List.set_cons_zero]
      refine pf_floats rfl (fun j hj => (by cases hj; kernel_rfl)) rfl (fun vs' w' hw' => ⟨.pointer (some ⟨w'.heap.size, 0, none⟩), w'.alloc (.cells #[.int .i64 0, .int .i64 0] 25), ?_, ⟨_, rfl, hw'.b.size⟩, hw'.two⟩) ?_
      · go_simp
      rintro _ ⟨x, rfl, hx⟩
      simp only [Act.put, List.setIfInBounds_toArray, List.set_cons_succ, List.set_cons_zero]
      refine pf_stored ⟨by decide, rfl⟩ rfl ⟨og1, w42, hw2⟩ (fun w' hw' => ?_) ?_
      · obtain ⟨w'', r1, r2⟩ := hw'.put
        exact ⟨w'', by simp [execOp, Act.eval, Instr.storeAt, Instr.sureAddr, r1, Result.andThen], r2⟩
      rintro _ -
      simp only [Act.put]
      rintro w50 hw50
      obtain ⟨m', e', -, -, hm2⟩ := hw50.m _ rfl
      cases e'
      obtain ⟨x', e', -, hx2⟩ := hw50.x _ rfl
      cases e'
      have hxm : x ≠ m := fun e => hw50.d _ _ rfl rfl (by rw [e])
      have VM := Lib.hid (((hm2 rfl).var.ne x 0 (.int .i64 tN) (fun e => hxm e.symm)).ne x 1 (.int .i64 tD) (fun e => hxm e.symm))
      have VX := hx2.var
      have HVX := Lib.hid (VX.put tN tD)
      have HBX := Lib.hid ((hw50.b.setCell (p := ⟨x, 0, none⟩) hx (.int .i64 tN)).setCell (p := ⟨x, 1, none⟩) hx (.int .i64 tD))
      have v0 := VX.at2.c0; have v1 := VX.at2.c1; have vl := VX.at2.lt; have vf0 := VX.f0; have vf1 := VX.f1
      clear hw1 hw2 hw50 hm2 hx2 VX y1 y2 y3 y4 hne z1 z2
      go_wp2_with fail
      go_meet
      exact ⟨x, m, rfl, rfl, hx, hm, hxm, VM.out, HVX.out, HBX.out⟩
    obtain ⟨x, m, rfl, rfl, hx, hm, hxm, VM, VX, hb⟩ := hcut
    have HSO := Lib.hid (SO (by rw [HOL.out]; omega))
    have hwx : w.heap.size < x := by have := T.at2.lt; omega
    have hwm : w.heap.size < m := by have := T.at2.lt; omega
    replace SO := SO.below hb; replace T := T.below hb; replace B := B.trans (hb.mono B.size)
    have hgw : g < wr.heap.size := by
      obtain ⟨g', o', e', h', -⟩ := HSO.out
      cases e'
      exact h'
    have hgm : ¬ g = m := by omega
    have hgx : ¬ g = x := by omega
    clear hb hx hm hgw
    go_wp2_with fail
    go_loopw [126] (fun s126 wq => ∃ (j : Nat) (p wb wc lb lc : Int), j ≤ n2 ∧ p = j ∧ s126 = .int .i64 p ∧ Hid (Te.WL l k tN tD (i : Int) j wb wc lb lc) ∧ Var2 wq m wb wc ∧ Var2 wq x lb lc ∧ SlT wq (some ⟨g, 0, none⟩) (Te.oth l k tN tD) ∧ Var2 wq w.heap.size tN tD ∧ Below w.heap.size w wq) (fun s126 _ => n2 - (intOf s126).toNat)
    case atStart => exact ⟨0, 0, zb, zc, tN, tD, Nat.zero_le _, rfl, rfl, Lib.hid (by have h9 := Te.WL.start l k tN tD (i : Int); rwa [HZB.out.1, HZB.out.2] at h9), VM, VX, SO, T, B⟩
    case round =>
      clear VM VX SO T B
      obtain ⟨j, p, wb, wc, lb, lc, hj, hp, rfl, HWL, VM, VX, SO, T, B⟩ := hrel
      have HP := Lib.hid hp
      have hp0 : 0 ≤ p := by omega
      have hpn : p.toNat = j := by omega
      have hpm : p ≤ 60 := by omega
      have hxm2 : ¬ x = m := hxm
      have hmx2 : ¬ m = x := fun e => hxm e.symm
      by_cases hjl : j < n2
      case pos =>
        have hp1 : p < (n2 : Int) := by omega
        have HJL := Lib.hid hjl
        have Y := (HC.out j (by rw [HN2.out]; exact hjl)).below B hbb
        obtain ⟨y, hy⟩ : ∃ y, Fo.at3 l j = y := ⟨_, rfl⟩
        rw [hy] at Y
        have HY := Lib.hid hy
        obtain ⟨y0, y1, y2⟩ := Y
        clear hp hjl hy
        have HIN := Te.in_cnt HV.out.2 (i := q) (j := j) (by rw [HN2.out]; exact HJL.out)
        rw [HY.out] at HIN
        have HQI := Lib.hid HQ.out
        by_cases ha : y.a ≤ q
        · have ha' : decide (y.a ≤ q) = true := decide_eq_true ha
          have hjc : j < Te.cnt l (i : Int) := by have := HIN.1 ha; rwa [HQ.out] at this
          by_cases hjk : j < k
          · have hjk' : decide (p < (k : Int)) = true := decide_eq_true (by omega)
            have VM2 := Lib.hid ((((VM.put y.b y.c).ne x 0 (.int .i64 y.b) (by omega)).ne x 1 (.int .i64 y.c) (by omega)).alloc (.cells #[.int .i64 y.a, .int .i64 y.b, .int .i64 y.c] 38))
            have VX2 := Lib.hid ((((VX.ne m 0 (.int .i64 y.b) (by omega)).ne m 1 (.int .i64 y.c) (by omega)).put y.b y.c).alloc (.cells #[.int .i64 y.a, .int .i64 y.b, .int .i64 y.c] 38))
            have T2 := Lib.hid (((((T.ne m 0 (.int .i64 y.b) (by omega)).ne m 1 (.int .i64 y.c) (by omega)).ne x 0 (.int .i64 y.b) (by omega)).ne x 1 (.int .i64 y.c) (by omega)).alloc (.cells #[.int .i64 y.a, .int .i64 y.b, .int .i64 y.c] 38))
            have SO2 := Lib.hid (((((SO.ne9 m 0 (.int .i64 y.b) (by omega)).ne9 m 1 (.int .i64 y.c) (by omega)).ne9 x 0 (.int .i64 y.b) (by omega)).ne9 x 1 (.int .i64 y.c) (by omega)).alloc (.cells #[.int .i64 y.a, .int .i64 y.b, .int .i64 y.c] 38))
            have B1 := (((B.setCell (p := ⟨m, 0, none⟩) (show w.heap.size ≤ m by omega) (.int .i64 y.b)).setCell (p := ⟨m, 1, none⟩) (show w.heap.size ≤ m by omega) (.int .i64 y.c)).setCell (p := ⟨x, 0, none⟩) (show w.heap.size ≤ x by omega) (.int .i64 y.b)).setCell (p := ⟨x, 1, none⟩) (show w.heap.size ≤ x by omega) (.int .i64 y.c)
            have B2 := Lib.hid (B1.alloc B1.size (.cells #[.int .i64 y.a, .int .i64 y.b, .int .i64 y.c] 38))
            clear B1
            have HW2 : Hid (Te.WL l k tN tD (i : Int) (j + 1) y.b y.c y.b y.c) := Lib.hid (by have h9 := Te.WL.yes (t := tN) (d := tD) hjc hjk; rwa [HY.out] at h9)
            have m_0 := VM.at2.c0; have m_1 := VM.at2.c1; have m_l := VM.at2.lt; have m_f0 := VM.f0; have m_f1 := VM.f1
            have x_0 := VX.at2.c0; have x_1 := VX.at2.c1; have x_l := VX.at2.lt; have x_f0 := VX.f0; have x_f1 := VX.f1
            have t_0 := T.at2.c0; have t_1 := T.at2.c1; have t_l := T.at2.lt
            clear HWL VM VX T SO B
            go_wp2_with fail
            go_roundw
            case rel => exact ⟨j + 1, p + 1, y.b, y.c, y.b, y.c, by have := HJL.out; omega, by have := HP.out; omega, rfl, HW2, VM2.out, VX2.out, SO2.out, T2.out, B2.out⟩
            case measure => simp [intOf]; have := HJL.out; have := HP.out; omega
          · have hjk' : decide (p < (k : Int)) = false := decide_eq_false (by omega)
            have VM2 := Lib.hid ((((VM.put y.b y.c).ne x 0 (.int .i64 tN) (by omega)).ne x 1 (.int .i64 tD) (by omega)).alloc (.cells #[.int .i64 y.a, .int .i64 y.b, .int .i64 y.c] 38))
            have VX2 := Lib.hid ((((VX.ne m 0 (.int .i64 y.b) (by omega)).ne m 1 (.int .i64 y.c) (by omega)).put tN tD).alloc (.cells #[.int .i64 y.a, .int .i64 y.b, .int .i64 y.c] 38))
            have T2 := Lib.hid (((((T.ne m 0 (.int .i64 y.b) (by omega)).ne m 1 (.int .i64 y.c) (by omega)).ne x 0 (.int .i64 tN) (by omega)).ne x 1 (.int .i64 tD) (by omega)).alloc (.cells #[.int .i64 y.a, .int .i64 y.b, .int .i64 y.c] 38))
            have SO2 := Lib.hid (((((SO.ne9 m 0 (.int .i64 y.b) (by omega)).ne9 m 1 (.int .i64 y.c) (by omega)).ne9 x 0 (.int .i64 tN) (by omega)).ne9 x 1 (.int .i64 tD) (by omega)).alloc (.cells #[.int .i64 y.a, .int .i64 y.b, .int .i64 y.c] 38))
            have B1 := (((B.setCell (p := ⟨m, 0, none⟩) (show w.heap.size ≤ m by omega) (.int .i64 y.b)).setCell (p := ⟨m, 1, none⟩) (show w.heap.size ≤ m by omega) (.int .i64 y.c)).setCell (p := ⟨x, 0, none⟩) (show w.heap.size ≤ x by omega) (.int .i64 tN)).setCell (p := ⟨x, 1, none⟩) (show w.heap.size ≤ x by omega) (.int .i64 tD)
            have B2 := Lib.hid (B1.alloc B1.size (.cells #[.int .i64 y.a, .int .i64 y.b, .int .i64 y.c] 38))
            clear B1
            have HW2 : Hid (Te.WL l k tN tD (i : Int) (j + 1) y.b y.c tN tD) := Lib.hid (by have h9 := Te.WL.yest (t := tN) (d := tD) hjc hjk; rwa [HY.out] at h9)
            have m_0 := VM.at2.c0; have m_1 := VM.at2.c1; have m_l := VM.at2.lt; have m_f0 := VM.f0; have m_f1 := VM.f1
            have x_0 := VX.at2.c0; have x_1 := VX.at2.c1; have x_l := VX.at2.lt; have x_f0 := VX.f0; have x_f1 := VX.f1
            have t_0 := T.at2.c0; have t_1 := T.at2.c1; have t_l := T.at2.lt
            clear HWL VM VX T SO B
            go_wp2_with fail
            go_roundw
            case rel => exact ⟨j + 1, p + 1, y.b, y.c, tN, tD, by have := HJL.out; omega, by have := HP.out; omega, rfl, HW2, VM2.out, VX2.out, SO2.out, T2.out, B2.out⟩
            case measure => simp [intOf]; have := HJL.out; have := HP.out; omega
        · have ha' : decide (y.a ≤ q) = false := decide_eq_false ha
          have hjc : ¬ j < Te.cnt l (i : Int) := fun z => ha (HIN.2 (by rw [HQ.out]; exact z))
          have HW2 := Lib.hid (HWL.out.no hjc)
          have VM2 := VM.alloc (.cells #[.int .i64 y.a, .int .i64 y.b, .int .i64 y.c] 38); have VX2 := VX.alloc (.cells #[.int .i64 y.a, .int .i64 y.b, .int .i64 y.c] 38); have T2 := T.alloc (.cells #[.int .i64 y.a, .int .i64 y.b, .int .i64 y.c] 38); have SO2 := SO.alloc (.cells #[.int .i64 y.a, .int .i64 y.b, .int .i64 y.c] 38); have B2 := B.alloc B.size (.cells #[.int .i64 y.a, .int .i64 y.b, .int .i64 y.c] 38)
          clear HWL VM VX T SO B
          go_wp2_with fail
          go_roundw
          case rel => exact ⟨j + 1, p + 1, wb, wc, lb, lc, by have := HJL.out; omega, by have := HP.out; omega, rfl, HW2, VM2, VX2, SO2, T2, B2⟩
          case measure => simp [intOf]; have := HJL.out; have := HP.out; omega
      case neg =>
        obtain rfl : j = n2 := by omega
        have hp1 : ¬ p < (j : Int) := by omega
        clear hp
        rcases Te.WL.fin HV.out HKL.out HVO.out (by rw [HN2.out]; exact HWL.out) with ⟨AA, AB⟩ | hno
        case inr => exact absurd (by rw [HN1.out]; exact HLT.out) hno
        case inl =>
        rw [← HQ.out] at AA AB
        have AA := Lib.hid AA; have AB := Lib.hid AB
        go_wp2_with fail
        refine (wAt_is bs l q wb wc 0 AA.out n1 c1 j c2 A1 _ HN1.out HN2.out HWF.out _ (HB.out.below B) (HL.out.below B)).mono ?_; rintro e w70 ⟨rfl, hb⟩
        have RE := (Var2.new w70 wb wc 25)
        replace VM := (VM.below hb).alloc (.cells #[.int .i64 wb, .int .i64 wc] 25); replace VX := (VX.below hb).alloc (.cells #[.int .i64 wb, .int .i64 wc] 25); replace T := (T.below hb).alloc (.cells #[.int .i64 wb, .int .i64 wc] 25); replace SO := (SO.below hb).alloc (.cells #[.int .i64 wb, .int .i64 wc] 25); replace B := (B.trans (hb.mono B.size)).alloc (B.trans (hb.mono B.size)).size (.cells #[.int .i64 wb, .int .i64 wc] 25)
        clear hb
        go_wp2_with fail
        refine (wAt_is bs (Te.oth l k tN tD) q lb lc 0 AB.out n1 c1 (k + 1) cap5 A1 _ HN1.out HOL.out HWF.out _ (HB.out.below B) SO).mono ?_; rintro e w71 ⟨rfl, hb⟩
        have RF := (Var2.new w71 lb lc 25)
        replace RE := (RE.below hb).alloc (.cells #[.int .i64 lb, .int .i64 lc] 25); replace VM := (VM.below hb).alloc (.cells #[.int .i64 lb, .int .i64 lc] 25); replace VX := (VX.below hb).alloc (.cells #[.int .i64 lb, .int .i64 lc] 25); replace T := (T.below hb).alloc (.cells #[.int .i64 lb, .int .i64 lc] 25); replace SO := (SO.below hb).alloc (.cells #[.int .i64 lb, .int .i64 lc] 25); replace B := (B.trans (hb.mono B.size)).alloc (B.trans (hb.mono B.size)).size (.cells #[.int .i64 lb, .int .i64 lc] 25)
        clear hb
        have heq := fun W => eqRatT wb wc wb wc true ⟨fun _ => ⟨rfl, rfl⟩, fun _ => rfl⟩ W
        have heq2 := fun W => eqRatT lb lc lb lc true ⟨fun _ => ⟨rfl, rfl⟩, fun _ => rfl⟩ W
        have e_0 := RE.at2.c0; have e_1 := RE.at2.c1; have f_0 := RF.at2.c0; have f_1 := RF.at2.c1; have m_0 := VM.at2.c0; have m_1 := VM.at2.c1; have x_0 := VX.at2.c0; have x_1 := VX.at2.c1
        go_wp2_with fail
        go_roundw
        case rel => exact ⟨i + 1, q + 1, by have := HLT.out; omega, by have := HQ.out; omega, rfl, rfl, SO, T, B⟩
        case measure => simp [intOf]; have := HLT.out; have := HQ.out; omega
end Go.Proofs.Ytahdlkdiadlgeaa
