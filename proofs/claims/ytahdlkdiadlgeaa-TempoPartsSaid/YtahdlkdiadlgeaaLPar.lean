import Derived.Test.YtahdlkdiadlgeaaGAW
import Derived.Test.YtahdlkdiadlgeaaGAC
/- The walk of the law TempoParts. -/
namespace Go.Proofs.Ytahdlkdiadlgeaa
open Go.RowKit

set_option maxRecDepth 100000 in
set_option maxHeartbeats 25600000 in
theorem tempoParts_walk (n1 c1 : Nat) (A1 : Option Addr) (bs : List Mt.B) (h1 : bs.length = n1) (n2 c2 : Nat) (A2 : Option Addr) (l : List Fo.T3) (h2 : l.length = n2) (a an ad b bn bd c cn cd : Int) (hwf : Mt.Wf bs) (w : World) (hB : SlB w A1 bs) (hL : SlT w A2 l) :
    Calls Try.prog 3 #[.slice A1 n1 c1, .slice A2 n2 c2, .agg #[.int .i64 a, .int .i64 an, .int .i64 ad], .agg #[.int .i64 b, .int .i64 bn, .int .i64 bd], .agg #[.int .i64 c, .int .i64 cn, .int .i64 cd]] w fun e w' => e = .returned (.bool true) ∧ Below w.heap.size w w' := by
  have HWF := Lib.hid hwf
  clear hwf
  obtain ⟨N1, D1, E1, S1⟩ := Te.secA_ex bs l a an ad b bn bd
  obtain ⟨N2, D2, E2, S2⟩ := Te.secA_ex bs l b bn bd c cn cd
  obtain ⟨N3, D3, E3, S3⟩ := Te.secA_ex bs l a an ad c cn cd
  obtain ⟨N4, D4, E4, S4⟩ := Te.secA_ex bs l b bn bd a an ad
  obtain ⟨u, hu⟩ : ∃ u : Bool, u = true ↔ useT bs l n1 n2 := ⟨@decide _ (Classical.propDecidable _), @decide_eq_true_iff _ (Classical.propDecidable _)⟩
  obtain ⟨pa, hpa⟩ : ∃ x, Mt.posB bs a an ad = x := ⟨_, rfl⟩
  obtain ⟨pb, hpb⟩ : ∃ x, Mt.posB bs b bn bd = x := ⟨_, rfl⟩
  obtain ⟨pc, hpc⟩ : ∃ x, Mt.posB bs c cn cd = x := ⟨_, rfl⟩
  have HA := Lib.hid hpa; have HBB := Lib.hid hpb; have HC := Lib.hid hpc
  replace S1 := Lib.hid S1; replace S2 := Lib.hid S2; replace S3 := Lib.hid S3; replace S4 := Lib.hid S4; have HU := Lib.hid hu; have HN1 := Lib.hid h1; have HN2 := Lib.hid h2; have HB := Lib.hid hB; have HL := Lib.hid hL
  clear hu h1 h2 hB hL hpa hpb hpc
  have P := ((Var3.new w a an ad 27).alloc (.cells #[.int .i64 b, .int .i64 bn, .int .i64 bd] 27)).alloc (.cells #[.int .i64 c, .int .i64 cn, .int .i64 cd] 27)
  have Q := (Var3.new (w.alloc (.cells #[.int .i64 a, .int .i64 an, .int .i64 ad] 27)) b bn bd 27).alloc (.cells #[.int .i64 c, .int .i64 cn, .int .i64 cd] 27)
  have R := Var3.new ((w.alloc (.cells #[.int .i64 a, .int .i64 an, .int .i64 ad] 27)).alloc (.cells #[.int .i64 b, .int .i64 bn, .int .i64 bd] 27)) c cn cd 27
  rw [World.size_alloc] at Q
  rw [World.size_alloc, World.size_alloc] at R
  have B := (((Below.refl w.heap.size w).alloc (Nat.le_refl _) (.cells #[.int .i64 a, .int .i64 an, .int .i64 ad] 27)).alloc (by simp) (.cells #[.int .i64 b, .int .i64 bn, .int .i64 bd] 27)).alloc (by simp; omega) (.cells #[.int .i64 c, .int .i64 cn, .int .i64 cd] 27)
  go_enter Try.func3, Try.ntmps3
  go_wp2_with fail
  refine (head_any _).mono ?_; rintro e w1 ⟨rfl, hb⟩
  replace P := P.below hb; replace Q := Q.below hb; replace R := R.below hb; replace B := B.trans (hb.mono B.size); clear hb
  go_wp2_with fail
  refine (lusable_is bs l u n1 c1 n2 c2 A1 A2 HU.out HN1.out HN2.out _ (HB.out.below B) (HL.out.below B)).mono ?_; rintro e w2 ⟨rfl, hb⟩
  replace P := P.below hb; replace Q := Q.below hb; replace R := R.below hb; replace B := B.trans (hb.mono B.size); clear hb
  cases u with
  | false =>
    go_wp2_with fail
    go_ret
    exact ⟨rfl, B⟩
  | true =>
  have HV := Lib.hid (HU.out.1 rfl).2.2
  have p_0 := P.at3.c0; have p_1 := P.at3.c1; have p_2 := P.at3.c2; have p_l := P.at3.lt
  go_wp2_with fail
  clear p_0 p_1 p_2 p_l
  refine (kposition_is bs a an ad pa n1 c1 A1 HA.out HN1.out _ (HB.out.below B)).mono ?_; rintro e w3 ⟨rfl, hb⟩
  replace P := P.below hb; replace Q := Q.below hb; replace R := R.below hb; replace B := B.trans (hb.mono B.size); clear hb
  cases pa with
  | false =>
    go_wp2_with fail
    go_ret
    exact ⟨rfl, B⟩
  | true =>
  have q_0 := Q.at3.c0; have q_1 := Q.at3.c1; have q_2 := Q.at3.c2; have q_l := Q.at3.lt
  go_wp2_with fail
  clear q_0 q_1 q_2 q_l
  refine (kposition_is bs b bn bd pb n1 c1 A1 HBB.out HN1.out _ (HB.out.below B)).mono ?_; rintro e w4 ⟨rfl, hb⟩
  replace P := P.below hb; replace Q := Q.below hb; replace R := R.below hb; replace B := B.trans (hb.mono B.size); clear hb
  cases pb with
  | false =>
    go_wp2_with fail
    go_ret
    exact ⟨rfl, B⟩
  | true =>
  have r_0 := R.at3.c0; have r_1 := R.at3.c1; have r_2 := R.at3.c2; have r_l := R.at3.lt
  go_wp2_with fail
  clear r_0 r_1 r_2 r_l
  refine (kposition_is bs c cn cd pc n1 c1 A1 HC.out HN1.out _ (HB.out.below B)).mono ?_; rintro e w5 ⟨rfl, hb⟩
  replace P := P.below hb; replace Q := Q.below hb; replace R := R.below hb; replace B := B.trans (hb.mono B.size); clear hb
  cases pc with
  | false =>
    go_wp2_with fail
    go_ret
    exact ⟨rfl, B⟩
  | true =>
  have p_0 := P.at3.c0; have p_1 := P.at3.c1; have p_2 := P.at3.c2; have p_l := P.at3.lt
  have q_0 := Q.at3.c0; have q_1 := Q.at3.c1; have q_2 := Q.at3.c2; have q_l := Q.at3.lt
  go_wp2_with fail
  clear p_0 p_1 p_2 p_l q_0 q_1 q_2 q_l
  refine (wSeconds_is bs l a an ad b bn bd N1 D1 E1 S1.out n1 c1 n2 c2 A1 A2 HN1.out HN2.out HWF.out _ (HB.out.below B) (HL.out.below B)).mono ?_; rintro e w6 ⟨rfl, hb⟩
  replace P := P.below hb; replace Q := Q.below hb; replace R := R.below hb; replace B := B.trans (hb.mono B.size); clear hb
  have RA := Var2.new w6 N1 D1 25
  replace P := P.alloc (.cells #[.int .i64 N1, .int .i64 D1] 25); replace Q := Q.alloc (.cells #[.int .i64 N1, .int .i64 D1] 25); replace R := R.alloc (.cells #[.int .i64 N1, .int .i64 D1] 25); replace B := B.alloc B.size (.cells #[.int .i64 N1, .int .i64 D1] 25)
  have q_0 := Q.at3.c0; have q_1 := Q.at3.c1; have q_2 := Q.at3.c2; have q_l := Q.at3.lt
  have r_0 := R.at3.c0; have r_1 := R.at3.c1; have r_2 := R.at3.c2; have r_l := R.at3.lt
  go_wp2_with fail
  clear q_0 q_1 q_2 q_l r_0 r_1 r_2 r_l
  refine (wSeconds_is bs l b bn bd c cn cd N2 D2 E2 S2.out n1 c1 n2 c2 A1 A2 HN1.out HN2.out HWF.out _ (HB.out.below B) (HL.out.below B)).mono ?_; rintro e w7 ⟨rfl, hb⟩
  replace P := P.below hb; replace Q := Q.below hb; replace R := R.below hb; replace RA := RA.below hb; replace B := B.trans (hb.mono B.size); clear hb
  have RB := Var2.new w7 N2 D2 25
  replace P := P.alloc (.cells #[.int .i64 N2, .int .i64 D2] 25); replace Q := Q.alloc (.cells #[.int .i64 N2, .int .i64 D2] 25); replace R := R.alloc (.cells #[.int .i64 N2, .int .i64 D2] 25); replace RA := RA.alloc (.cells #[.int .i64 N2, .int .i64 D2] 25); replace B := B.alloc B.size (.cells #[.int .i64 N2, .int .i64 D2] 25)
  have p_0 := P.at3.c0; have p_1 := P.at3.c1; have p_2 := P.at3.c2; have p_l := P.at3.lt
  have r_0 := R.at3.c0; have r_1 := R.at3.c1; have r_2 := R.at3.c2; have r_l := R.at3.lt
  go_wp2_with fail
  clear p_0 p_1 p_2 p_l r_0 r_1 r_2 r_l
  refine (wSeconds_is bs l a an ad c cn cd N3 D3 E3 S3.out n1 c1 n2 c2 A1 A2 HN1.out HN2.out HWF.out _ (HB.out.below B) (HL.out.below B)).mono ?_; rintro e w8 ⟨rfl, hb⟩
  replace P := P.below hb; replace Q := Q.below hb; replace R := R.below hb; replace RA := RA.below hb; replace RB := RB.below hb; replace B := B.trans (hb.mono B.size); clear hb
  have RC := Var2.new w8 N3 D3 25
  replace P := P.alloc (.cells #[.int .i64 N3, .int .i64 D3] 25); replace Q := Q.alloc (.cells #[.int .i64 N3, .int .i64 D3] 25); replace R := R.alloc (.cells #[.int .i64 N3, .int .i64 D3] 25); replace RA := RA.alloc (.cells #[.int .i64 N3, .int .i64 D3] 25); replace RB := RB.alloc (.cells #[.int .i64 N3, .int .i64 D3] 25); replace B := B.alloc B.size (.cells #[.int .i64 N3, .int .i64 D3] 25)
  have p_0 := P.at3.c0; have p_1 := P.at3.c1; have p_2 := P.at3.c2; have p_l := P.at3.lt
  go_wp2_with fail
  clear p_0 p_1 p_2 p_l
  refine (wSeconds_is bs l a an ad a an ad 0 1 0 (Te.sec_self HV.out HA.out) n1 c1 n2 c2 A1 A2 HN1.out HN2.out HWF.out _ (HB.out.below B) (HL.out.below B)).mono ?_; rintro e w9 ⟨rfl, hb⟩
  replace P := P.below hb; replace Q := Q.below hb; replace R := R.below hb; replace RA := RA.below hb; replace RB := RB.below hb; replace RC := RC.below hb; replace B := B.trans (hb.mono B.size); clear hb
  have RD := Var2.new w9 0 1 25
  replace P := P.alloc (.cells #[.int .i64 0, .int .i64 1] 25); replace Q := Q.alloc (.cells #[.int .i64 0, .int .i64 1] 25); replace R := R.alloc (.cells #[.int .i64 0, .int .i64 1] 25); replace RA := RA.alloc (.cells #[.int .i64 0, .int .i64 1] 25); replace RB := RB.alloc (.cells #[.int .i64 0, .int .i64 1] 25); replace RC := RC.alloc (.cells #[.int .i64 0, .int .i64 1] 25); replace B := B.alloc B.size (.cells #[.int .i64 0, .int .i64 1] 25)
  go_wp2_with fail
  obtain ⟨wr, hwr⟩ : ∃ x, w9.alloc (.cells #[.int .i64 0, .int .i64 1] 25) = x := ⟨_, rfl⟩
  rw [hwr] at B P Q R RA RB RC RD
  try rw [hwr]
  clear hwr
  have HE1 := Lib.hid (Te.sec_e HV.out HA.out HBB.out S1.out)
  have HE2 := Lib.hid (Te.sec_e HV.out HBB.out HC.out S2.out)
  have HE3 := Lib.hid (Te.sec_e HV.out HA.out HC.out S3.out)
  rcases HE1.out with ⟨rfl, b1⟩ | ⟨rfl, -⟩ | ⟨rfl, -⟩
  case inr.inl =>
    have hne := Ext.there wr
    have rd_0 := fun y : Ext wr => y.cell RD.at2.c0; have rd_1 := fun y : Ext wr => y.cell RD.at2.c1
    have HC0 := fun y : Ext wr => lrat_is 0 1 y.w
    refine Ext.region (by kernel_rfl) (by kernel_rfl) ?_
    repeat (go_big_quiet_step ((go_at_call 12; with_reducible exact Ext.call _ (HC0 _))))
    refine wpQuiet_nil ?_
    rintro _ ⟨xw, rfl⟩
    have hb := xw.h
    clear hne rd_0 rd_1 HC0
    generalize xw.w = w10 at *
    clear xw
    replace P := P.below hb; replace Q := Q.below hb; replace R := R.below hb; replace RA := RA.below hb; replace RB := RB.below hb; replace RC := RC.below hb; replace RD := RD.below hb; replace B := B.trans (hb.mono B.size); clear hb
    go_wp2_with fail
    go_ret
    exact ⟨rfl, B⟩
  case inr.inr =>
    have hne := Ext.there wr
    have rd_0 := fun y : Ext wr => y.cell RD.at2.c0; have rd_1 := fun y : Ext wr => y.cell RD.at2.c1
    have HC0 := fun y : Ext wr => lrat_is 0 1 y.w
    refine Ext.region (by kernel_rfl) (by kernel_rfl) ?_
    repeat (go_big_quiet_step ((go_at_call 12; with_reducible exact Ext.call _ (HC0 _))))
    refine wpQuiet_nil ?_
    rintro _ ⟨xw, rfl⟩
    have hb := xw.h
    clear hne rd_0 rd_1 HC0
    generalize xw.w = w10 at *
    clear xw
    replace P := P.below hb; replace Q := Q.below hb; replace R := R.below hb; replace RA := RA.below hb; replace RB := RB.below hb; replace RC := RC.below hb; replace RD := RD.below hb; replace B := B.trans (hb.mono B.size); clear hb
    go_wp2_with fail
    go_ret
    exact ⟨rfl, B⟩
  case inl =>
  have HB1 := Lib.hid b1
  clear b1
  have hne := Ext.there wr
  have rd_0 := fun y : Ext wr => y.cell RD.at2.c0; have rd_1 := fun y : Ext wr => y.cell RD.at2.c1
  have HC0 := fun y : Ext wr => lrat_is 0 1 y.w
  refine Ext.region (by kernel_rfl) (by kernel_rfl) ?_
  repeat (go_big_quiet_step ((go_at_call 12; with_reducible exact Ext.call _ (HC0 _))))
  refine wpQuiet_nil ?_
  rintro _ ⟨xw, rfl⟩
  have hb := xw.h
  clear hne rd_0 rd_1 HC0
  generalize xw.w = w10 at *
  clear xw
  replace P := P.below hb; replace Q := Q.below hb; replace R := R.below hb; replace RA := RA.below hb; replace RB := RB.below hb; replace RC := RC.below hb; replace RD := RD.below hb; replace B := B.trans (hb.mono B.size); clear hb
  rcases HE2.out with ⟨rfl, b2⟩ | ⟨rfl, -⟩ | ⟨rfl, -⟩
  case inr.inl =>
    go_wp2_with fail
    go_ret
    exact ⟨rfl, B⟩
  case inr.inr =>
    go_wp2_with fail
    go_ret
    exact ⟨rfl, B⟩
  case inl =>
  have HB2 := Lib.hid b2
  clear b2
  rcases HE3.out with ⟨rfl, b3⟩ | ⟨rfl, -⟩ | ⟨rfl, b3⟩
  case inr.inl =>
    go_wp2_with fail
    go_ret
    exact ⟨rfl, B⟩
  case inr.inr => exact absurd b3 (Te.bef_trans HB1.out HB2.out)
  case inl =>
  clear b3
  have ra_0 := RA.at2.c0; have ra_1 := RA.at2.c1; have ra_l := RA.at2.lt
  have rb_0 := RB.at2.c0; have rb_1 := RB.at2.c1; have rb_l := RB.at2.lt
  go_wp2_with fail
  clear ra_0 ra_1 ra_l rb_0 rb_1 rb_l
  refine (add_is N1 D1 N2 D2 N3 D3 0 (Te.parts HV.out HA.out HBB.out HC.out S1.out S2.out S3.out HB1.out HB2.out) _).mono ?_; rintro e w11 ⟨rfl, hb⟩
  replace P := P.below hb; replace Q := Q.below hb; replace R := R.below hb; replace RA := RA.below hb; replace RB := RB.below hb; replace RC := RC.below hb; replace RD := RD.below hb; replace B := B.trans (hb.mono B.size); clear hb
  have RE := Var2.new w11 N3 D3 25
  replace P := P.alloc (.cells #[.int .i64 N3, .int .i64 D3] 25); replace Q := Q.alloc (.cells #[.int .i64 N3, .int .i64 D3] 25); replace R := R.alloc (.cells #[.int .i64 N3, .int .i64 D3] 25); replace RA := RA.alloc (.cells #[.int .i64 N3, .int .i64 D3] 25); replace RB := RB.alloc (.cells #[.int .i64 N3, .int .i64 D3] 25); replace RC := RC.alloc (.cells #[.int .i64 N3, .int .i64 D3] 25); replace RD := RD.alloc (.cells #[.int .i64 N3, .int .i64 D3] 25); replace B := B.alloc B.size (.cells #[.int .i64 N3, .int .i64 D3] 25)
  go_wp2_with fail
  obtain ⟨wx, hwr⟩ : ∃ x, w11.alloc (.cells #[.int .i64 N3, .int .i64 D3] 25) = x := ⟨_, rfl⟩
  rw [hwr] at B P Q R RA RB RC RD RE
  try rw [hwr]
  clear hwr
  obtain ⟨sg0, sg1⟩ := Te.sec_sign HV.out HA.out HBB.out S1.out HB1.out
  have sg2 : decide (N1 < 0) = false := decide_eq_false (by omega)
  have heq := fun W => eqRatT N3 D3 N3 D3 true ⟨fun _ => ⟨rfl, rfl⟩, fun _ => rfl⟩ W
  have HSG := Lib.hid sg1
  clear sg0 sg1
  rcases Te.sec_back HV.out HA.out HBB.out S4.out HB1.out with ⟨rfl, hs⟩ | ⟨rfl, hs⟩
  · have hp2 := fun W => eqPosT a an ad b bn bd true ⟨fun _ => hs, fun _ => rfl⟩ W
    have hn : (N1 == 0) = true := by simpa using HSG.out.2 hs
    clear hs
    have hne := Ext.there wx
    have re_0 := fun y : Ext wx => y.cell RE.at2.c0; have re_1 := fun y : Ext wx => y.cell RE.at2.c1
    have rc_0 := fun y : Ext wx => y.cell RC.at2.c0; have rc_1 := fun y : Ext wx => y.cell RC.at2.c1
    have ra_0 := fun y : Ext wx => y.cell RA.at2.c0; have ra_1 := fun y : Ext wx => y.cell RA.at2.c1
    have p_0 := fun y : Ext wx => y.cell P.at3.c0; have p_1 := fun y : Ext wx => y.cell P.at3.c1; have p_2 := fun y : Ext wx => y.cell P.at3.c2
    have q_0 := fun y : Ext wx => y.cell Q.at3.c0; have q_1 := fun y : Ext wx => y.cell Q.at3.c1; have q_2 := fun y : Ext wx => y.cell Q.at3.c2
    refine Ext.region (by kernel_rfl) (by kernel_rfl) ?_
    repeat (go_big_quiet_step (fail))
    refine wpQuiet_nil ?_
    rintro _ ⟨xw, rfl⟩
    have hb := xw.h
    clear hne re_0 re_1 rc_0 rc_1 ra_0 ra_1 p_0 p_1 p_2 q_0 q_1 q_2
    generalize xw.w = w12 at *
    clear xw
    replace P := P.below hb; replace Q := Q.below hb; replace R := R.below hb; replace RA := RA.below hb; replace RB := RB.below hb; replace RC := RC.below hb; replace RD := RD.below hb; replace RE := RE.below hb; replace B := B.trans (hb.mono B.size); clear hb
    clear heq sg2
    have p_0 := P.at3.c0; have p_1 := P.at3.c1; have p_2 := P.at3.c2; have p_l := P.at3.lt
    have q_0 := Q.at3.c0; have q_1 := Q.at3.c1; have q_2 := Q.at3.c2; have q_l := Q.at3.lt
    go_wp2_with fail
    clear p_0 p_1 p_2 p_l q_0 q_1 q_2 q_l
    refine (wSeconds_is bs l b bn bd a an ad N4 D4 0 S4.out n1 c1 n2 c2 A1 A2 HN1.out HN2.out HWF.out _ (HB.out.below B) (HL.out.below B)).mono ?_; rintro e w13 ⟨rfl, hb⟩
    replace P := P.below hb; replace Q := Q.below hb; replace R := R.below hb; replace RA := RA.below hb; replace RB := RB.below hb; replace RC := RC.below hb; replace RD := RD.below hb; replace RE := RE.below hb; replace B := B.trans (hb.mono B.size); clear hb
    have RF := Var2.new w13 N4 D4 25
    replace P := P.alloc (.cells #[.int .i64 N4, .int .i64 D4] 25); replace Q := Q.alloc (.cells #[.int .i64 N4, .int .i64 D4] 25); replace R := R.alloc (.cells #[.int .i64 N4, .int .i64 D4] 25); replace RA := RA.alloc (.cells #[.int .i64 N4, .int .i64 D4] 25); replace RB := RB.alloc (.cells #[.int .i64 N4, .int .i64 D4] 25); replace RC := RC.alloc (.cells #[.int .i64 N4, .int .i64 D4] 25); replace RD := RD.alloc (.cells #[.int .i64 N4, .int .i64 D4] 25); replace RE := RE.alloc (.cells #[.int .i64 N4, .int .i64 D4] 25); replace B := B.alloc B.size (.cells #[.int .i64 N4, .int .i64 D4] 25)
    have p_0 := P.at3.c0; have p_1 := P.at3.c1; have p_2 := P.at3.c2; have p_l := P.at3.lt
    have q_0 := Q.at3.c0; have q_1 := Q.at3.c1; have q_2 := Q.at3.c2; have q_l := Q.at3.lt
    go_wp2_with fail
    clear p_0 p_1 p_2 p_l q_0 q_1 q_2 q_l
    go_ret
    exact ⟨rfl, B⟩
  · have hp2 := fun W => eqPosT a an ad b bn bd false ⟨(fun h => by cases h), fun k => absurd k hs⟩ W
    have hn : (N1 == 0) = false := by simpa using fun k => hs (HSG.out.1 k)
    have hp3 := fun W => eqPosT b bn bd a an ad false ⟨(fun h => by cases h), fun k => absurd ⟨k.1.symm, k.2.1.symm, k.2.2.symm⟩ hs⟩ W
    clear hs
    have hne := Ext.there wx
    have re_0 := fun y : Ext wx => y.cell RE.at2.c0; have re_1 := fun y : Ext wx => y.cell RE.at2.c1
    have rc_0 := fun y : Ext wx => y.cell RC.at2.c0; have rc_1 := fun y : Ext wx => y.cell RC.at2.c1
    have ra_0 := fun y : Ext wx => y.cell RA.at2.c0; have ra_1 := fun y : Ext wx => y.cell RA.at2.c1
    have p_0 := fun y : Ext wx => y.cell P.at3.c0; have p_1 := fun y : Ext wx => y.cell P.at3.c1; have p_2 := fun y : Ext wx => y.cell P.at3.c2
    have q_0 := fun y : Ext wx => y.cell Q.at3.c0; have q_1 := fun y : Ext wx => y.cell Q.at3.c1; have q_2 := fun y : Ext wx => y.cell Q.at3.c2
    refine Ext.region (by kernel_rfl) (by kernel_rfl) ?_
    repeat (go_big_quiet_step (fail))
    refine wpQuiet_nil ?_
    rintro _ ⟨xw, rfl⟩
    have hb := xw.h
    clear hne re_0 re_1 rc_0 rc_1 ra_0 ra_1 p_0 p_1 p_2 q_0 q_1 q_2
    generalize xw.w = w12 at *
    clear xw
    replace P := P.below hb; replace Q := Q.below hb; replace R := R.below hb; replace RA := RA.below hb; replace RB := RB.below hb; replace RC := RC.below hb; replace RD := RD.below hb; replace RE := RE.below hb; replace B := B.trans (hb.mono B.size); clear hb
    clear heq sg2
    have p_0 := P.at3.c0; have p_1 := P.at3.c1; have p_2 := P.at3.c2; have p_l := P.at3.lt
    have q_0 := Q.at3.c0; have q_1 := Q.at3.c1; have q_2 := Q.at3.c2; have q_l := Q.at3.lt
    go_wp2_with fail
    clear p_0 p_1 p_2 p_l q_0 q_1 q_2 q_l
    refine (wSeconds_is bs l b bn bd a an ad N4 D4 1 S4.out n1 c1 n2 c2 A1 A2 HN1.out HN2.out HWF.out _ (HB.out.below B) (HL.out.below B)).mono ?_; rintro e w13 ⟨rfl, hb⟩
    replace P := P.below hb; replace Q := Q.below hb; replace R := R.below hb; replace RA := RA.below hb; replace RB := RB.below hb; replace RC := RC.below hb; replace RD := RD.below hb; replace RE := RE.below hb; replace B := B.trans (hb.mono B.size); clear hb
    have RF := Var2.new w13 N4 D4 25
    replace P := P.alloc (.cells #[.int .i64 N4, .int .i64 D4] 25); replace Q := Q.alloc (.cells #[.int .i64 N4, .int .i64 D4] 25); replace R := R.alloc (.cells #[.int .i64 N4, .int .i64 D4] 25); replace RA := RA.alloc (.cells #[.int .i64 N4, .int .i64 D4] 25); replace RB := RB.alloc (.cells #[.int .i64 N4, .int .i64 D4] 25); replace RC := RC.alloc (.cells #[.int .i64 N4, .int .i64 D4] 25); replace RD := RD.alloc (.cells #[.int .i64 N4, .int .i64 D4] 25); replace RE := RE.alloc (.cells #[.int .i64 N4, .int .i64 D4] 25); replace B := B.alloc B.size (.cells #[.int .i64 N4, .int .i64 D4] 25)
    have p_0 := P.at3.c0; have p_1 := P.at3.c1; have p_2 := P.at3.c2; have p_l := P.at3.lt
    have q_0 := Q.at3.c0; have q_1 := Q.at3.c1; have q_2 := Q.at3.c2; have q_l := Q.at3.lt
    go_wp2_with fail
    clear p_0 p_1 p_2 p_l q_0 q_1 q_2 q_l
    go_ret
    exact ⟨rfl, B⟩
end Go.Proofs.Ytahdlkdiadlgeaa
