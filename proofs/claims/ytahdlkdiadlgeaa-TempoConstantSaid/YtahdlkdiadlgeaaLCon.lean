import Derived.Test.YtahdlkdiadlgeaaGAX
import Derived.Test.YtahdlkdiadlgeaaGAS
/- The walk of the law TempoConstant. -/
namespace Go.Proofs.Ytahdlkdiadlgeaa
open Go.RowKit

theorem slt_one (w : World) (x : Fo.T3) : SlT (w.alloc (.cells #[.int .i64 x.a, .int .i64 x.b, .int .i64 x.c] 38)) (some ⟨w.heap.size, 0, none⟩) [x] := fun _ => by
  refine ⟨w.heap.size, 0, rfl, by simp, fun i hi => ?_⟩
  have : i = 0 := by simp at hi; omega
  subst this
  refine ⟨?_, ?_, ?_⟩ <;> (go_simp; rfl)
set_option maxRecDepth 100000 in
set_option maxHeartbeats 25600000 in
theorem tempoConstant_walk (n1 c1 : Nat) (A1 : Option Addr) (bs : List Mt.B) (h1 : bs.length = n1) (hwf : Mt.Wf bs) (x : Fo.T3) (a an ad b bn bd : Int) (w : World) (hB : SlB w A1 bs) :
    Calls Try.prog 4 #[.slice A1 n1 c1, .agg #[.int .i64 x.a, .int .i64 x.b, .int .i64 x.c], .agg #[.int .i64 a, .int .i64 an, .int .i64 ad], .agg #[.int .i64 b, .int .i64 bn, .int .i64 bd]] w fun e w' => e = .returned (.bool true) ∧ Below w.heap.size w w' := by
  obtain ⟨u, hu⟩ : ∃ u : Bool, u = true ↔ useT bs [x] n1 1 := ⟨@decide _ (Classical.propDecidable _), @decide_eq_true_iff _ (Classical.propDecidable _)⟩
  obtain ⟨N, D, E, S⟩ := Te.secA_ex bs [x] a an ad b bn bd
  have HU := Lib.hid hu; have HN1 := Lib.hid h1; have HB := Lib.hid hB; have HWF := Lib.hid hwf; replace S := Lib.hid S
  have T := ((Var3.new w x.a x.b x.c 38).alloc (.cells #[.int .i64 a, .int .i64 an, .int .i64 ad] 27)).alloc (.cells #[.int .i64 b, .int .i64 bn, .int .i64 bd] 27)
  have P := (Var3.new (w.alloc (.cells #[.int .i64 x.a, .int .i64 x.b, .int .i64 x.c] 38)) a an ad 27).alloc (.cells #[.int .i64 b, .int .i64 bn, .int .i64 bd] 27)
  have Q := Var3.new ((w.alloc (.cells #[.int .i64 x.a, .int .i64 x.b, .int .i64 x.c] 38)).alloc (.cells #[.int .i64 a, .int .i64 an, .int .i64 ad] 27)) b bn bd 27
  rw [World.size_alloc] at P
  rw [World.size_alloc, World.size_alloc] at Q
  have B := (((Below.refl w.heap.size w).alloc (Nat.le_refl _) (.cells #[.int .i64 x.a, .int .i64 x.b, .int .i64 x.c] 38)).alloc (by simp) (.cells #[.int .i64 a, .int .i64 an, .int .i64 ad] 27)).alloc (by simp; omega) (.cells #[.int .i64 b, .int .i64 bn, .int .i64 bd] 27)
  clear hu h1 hB hwf
  go_enter Try.func4, Try.ntmps4
  go_wp2_with fail
  refine (head_any _).mono ?_; rintro e w1 ⟨rfl, hb⟩
  replace T := T.below hb; replace P := P.below hb; replace Q := Q.below hb; replace B := B.trans (hb.mono B.size); clear hb
  have ST := slt_one w1 x
  have t_0 := T.at3.c0; have t_1 := T.at3.c1; have t_2 := T.at3.c2; have t_l := T.at3.lt
  replace T := T.alloc (.cells #[.int .i64 x.a, .int .i64 x.b, .int .i64 x.c] 38); replace P := P.alloc (.cells #[.int .i64 x.a, .int .i64 x.b, .int .i64 x.c] 38); replace Q := Q.alloc (.cells #[.int .i64 x.a, .int .i64 x.b, .int .i64 x.c] 38); replace B := B.alloc B.size (.cells #[.int .i64 x.a, .int .i64 x.b, .int .i64 x.c] 38)
  go_wp2_with fail
  clear t_0 t_1 t_2 t_l
  refine (lusable_is bs [x] u n1 c1 1 1 A1 _ HU.out HN1.out rfl _ (HB.out.below B) ST).mono ?_; rintro e w2 ⟨rfl, hb⟩
  replace T := T.below hb; replace P := P.below hb; replace Q := Q.below hb; replace ST := ST.below hb; replace B := B.trans (hb.mono B.size); clear hb
  cases u with
  | false =>
    go_wp2_with fail
    go_ret
    exact ⟨rfl, B⟩
  | true =>
  have HV := Lib.hid (HU.out.1 rfl).2.2
  obtain ⟨pa, hpa⟩ : ∃ z, Mt.posB bs a an ad = z := ⟨_, rfl⟩
  obtain ⟨pb, hpb⟩ : ∃ z, Mt.posB bs b bn bd = z := ⟨_, rfl⟩
  have HA := Lib.hid hpa; have HBB := Lib.hid hpb
  clear hpa hpb
  have p_0 := P.at3.c0; have p_1 := P.at3.c1; have p_2 := P.at3.c2; have p_l := P.at3.lt
  have q_0 := Q.at3.c0; have q_1 := Q.at3.c1; have q_2 := Q.at3.c2; have q_l := Q.at3.lt
  go_wp2_with fail
  clear p_0 p_1 p_2 p_l q_0 q_1 q_2 q_l
  refine (wSeconds_is bs [x] a an ad b bn bd N D E S.out n1 c1 1 1 A1 _ HN1.out rfl HWF.out _ (HB.out.below B) ST).mono ?_; rintro e w3 ⟨rfl, hb⟩
  replace T := T.below hb; replace P := P.below hb; replace Q := Q.below hb; replace ST := ST.below hb; replace B := B.trans (hb.mono B.size); clear hb
  have RA := Var2.new w3 N D 25
  replace T := T.alloc (.cells #[.int .i64 N, .int .i64 D] 25); replace P := P.alloc (.cells #[.int .i64 N, .int .i64 D] 25); replace Q := Q.alloc (.cells #[.int .i64 N, .int .i64 D] 25); replace ST := ST.alloc (.cells #[.int .i64 N, .int .i64 D] 25); replace B := B.alloc B.size (.cells #[.int .i64 N, .int .i64 D] 25)
  by_cases hE : E = 0
  case neg =>
    have hE2 : (E != 0) = true := by simpa using hE
    clear hE
    go_wp2_with fail
    go_ret
    exact ⟨rfl, B⟩
  case pos =>
  subst hE
  have hask : Te.Ask bs [x] a an ad b bn bd := by
    refine Classical.byContradiction fun k => ?_
    have := (S.out.no k).2.2
    omega
  obtain rfl : pa = true := HA.out.symm.trans hask.2.1
  obtain rfl : pb = true := HBB.out.symm.trans hask.2.2.1
  obtain ⟨dN, dD, hsub, hmul⟩ := Te.const HV.out HA.out HBB.out S.out hask.2.2.2
  have HSUB := Lib.hid hsub; have HMUL := Lib.hid hmul
  clear hask hsub hmul
  obtain ⟨xN, hxN⟩ : ∃ z, Mt.oN (Mt.before bs a.toNat + Mt.tk an ad).toNat = z := ⟨_, rfl⟩
  obtain ⟨xD, hxD⟩ : ∃ z, Mt.oD (Mt.before bs a.toNat + Mt.tk an ad).toNat = z := ⟨_, rfl⟩
  obtain ⟨yN, hyN⟩ : ∃ z, Mt.oN (Mt.before bs b.toNat + Mt.tk bn bd).toNat = z := ⟨_, rfl⟩
  obtain ⟨yD, hyD⟩ : ∃ z, Mt.oD (Mt.before bs b.toNat + Mt.tk bn bd).toNat = z := ⟨_, rfl⟩
  rw [hxN, hxD, hyN, hyD] at HSUB
  have HX := Lib.hid (And.intro hxN hxD); have HY := Lib.hid (And.intro hyN hyD)
  clear hxN hxD hyN hyD
  have p_0 := P.at3.c0; have p_1 := P.at3.c1; have p_2 := P.at3.c2; have p_l := P.at3.lt
  go_wp2_with fail
  clear p_0 p_1 p_2 p_l
  refine (mtime_is bs a an ad true true xN xD n1 c1 A1 ⟨fun _ => HV.out.1, fun _ => rfl⟩ HA.out HX.out.1 HX.out.2 HN1.out HWF.out _ (HB.out.below B)).mono ?_; rintro e w4 ⟨hP, hb⟩
  unfold RatP at hP
  rw [if_pos (show (true && true) = true from rfl)] at hP
  subst hP
  replace T := T.below hb; replace P := P.below hb; replace Q := Q.below hb; replace ST := ST.below hb; replace RA := RA.below hb; replace B := B.trans (hb.mono B.size); clear hb
  have RB := Var2.new w4 xN xD 25
  replace T := T.alloc (.cells #[.int .i64 xN, .int .i64 xD] 25); replace P := P.alloc (.cells #[.int .i64 xN, .int .i64 xD] 25); replace Q := Q.alloc (.cells #[.int .i64 xN, .int .i64 xD] 25); replace ST := ST.alloc (.cells #[.int .i64 xN, .int .i64 xD] 25); replace RA := RA.alloc (.cells #[.int .i64 xN, .int .i64 xD] 25); replace B := B.alloc B.size (.cells #[.int .i64 xN, .int .i64 xD] 25)
  have q_0 := Q.at3.c0; have q_1 := Q.at3.c1; have q_2 := Q.at3.c2; have q_l := Q.at3.lt
  go_wp2_with fail
  clear q_0 q_1 q_2 q_l
  refine (mtime_is bs b bn bd true true yN yD n1 c1 A1 ⟨fun _ => HV.out.1, fun _ => rfl⟩ HBB.out HY.out.1 HY.out.2 HN1.out HWF.out _ (HB.out.below B)).mono ?_; rintro e w5 ⟨hP, hb⟩
  unfold RatP at hP
  rw [if_pos (show (true && true) = true from rfl)] at hP
  subst hP
  replace T := T.below hb; replace P := P.below hb; replace Q := Q.below hb; replace ST := ST.below hb; replace RA := RA.below hb; replace RB := RB.below hb; replace B := B.trans (hb.mono B.size); clear hb
  have RC := Var2.new w5 yN yD 25
  replace T := T.alloc (.cells #[.int .i64 yN, .int .i64 yD] 25); replace P := P.alloc (.cells #[.int .i64 yN, .int .i64 yD] 25); replace Q := Q.alloc (.cells #[.int .i64 yN, .int .i64 yD] 25); replace ST := ST.alloc (.cells #[.int .i64 yN, .int .i64 yD] 25); replace RA := RA.alloc (.cells #[.int .i64 yN, .int .i64 yD] 25); replace RB := RB.alloc (.cells #[.int .i64 yN, .int .i64 yD] 25); replace B := B.alloc B.size (.cells #[.int .i64 yN, .int .i64 yD] 25)
  have rb_0 := RB.at2.c0; have rb_1 := RB.at2.c1; have rb_l := RB.at2.lt
  have rc_0 := RC.at2.c0; have rc_1 := RC.at2.c1; have rc_l := RC.at2.lt
  go_wp2_with fail
  clear rb_0 rb_1 rb_l rc_0 rc_1 rc_l
  refine (sub_is yN yD xN xD dN dD 0 HSUB.out _).mono ?_; rintro e w6 ⟨rfl, hb⟩
  replace T := T.below hb; replace P := P.below hb; replace Q := Q.below hb; replace ST := ST.below hb; replace RA := RA.below hb; replace RB := RB.below hb; replace RC := RC.below hb; replace B := B.trans (hb.mono B.size); clear hb
  have RD := Var2.new w6 dN dD 25
  replace T := T.alloc (.cells #[.int .i64 dN, .int .i64 dD] 25); replace P := P.alloc (.cells #[.int .i64 dN, .int .i64 dD] 25); replace Q := Q.alloc (.cells #[.int .i64 dN, .int .i64 dD] 25); replace ST := ST.alloc (.cells #[.int .i64 dN, .int .i64 dD] 25); replace RA := RA.alloc (.cells #[.int .i64 dN, .int .i64 dD] 25); replace RB := RB.alloc (.cells #[.int .i64 dN, .int .i64 dD] 25); replace RC := RC.alloc (.cells #[.int .i64 dN, .int .i64 dD] 25); replace B := B.alloc B.size (.cells #[.int .i64 dN, .int .i64 dD] 25)
  have rd_0 := RD.at2.c0; have rd_1 := RD.at2.c1; have rd_l := RD.at2.lt
  have t_0 := T.at3.c0; have t_1 := T.at3.c1; have t_2 := T.at3.c2; have t_l := T.at3.lt
  go_wp2_with fail
  clear rd_0 rd_1 rd_l t_0 t_1 t_2 t_l
  refine (mul_is dN dD x.b x.c N D 0 HMUL.out _).mono ?_; rintro e w7 ⟨rfl, hb⟩
  replace T := T.below hb; replace P := P.below hb; replace Q := Q.below hb; replace ST := ST.below hb; replace RA := RA.below hb; replace RB := RB.below hb; replace RC := RC.below hb; replace RD := RD.below hb; replace B := B.trans (hb.mono B.size); clear hb
  have RE := Var2.new w7 N D 25
  replace T := T.alloc (.cells #[.int .i64 N, .int .i64 D] 25); replace P := P.alloc (.cells #[.int .i64 N, .int .i64 D] 25); replace Q := Q.alloc (.cells #[.int .i64 N, .int .i64 D] 25); replace ST := ST.alloc (.cells #[.int .i64 N, .int .i64 D] 25); replace RA := RA.alloc (.cells #[.int .i64 N, .int .i64 D] 25); replace RB := RB.alloc (.cells #[.int .i64 N, .int .i64 D] 25); replace RC := RC.alloc (.cells #[.int .i64 N, .int .i64 D] 25); replace RD := RD.alloc (.cells #[.int .i64 N, .int .i64 D] 25); replace B := B.alloc B.size (.cells #[.int .i64 N, .int .i64 D] 25)
  have heq := fun W => eqRatT N D N D true ⟨fun _ => ⟨rfl, rfl⟩, fun _ => rfl⟩ W
  have re_0 := RE.at2.c0; have re_1 := RE.at2.c1; have re_l := RE.at2.lt
  have ra_0 := RA.at2.c0; have ra_1 := RA.at2.c1; have ra_l := RA.at2.lt
  go_wp2_with fail
  clear re_0 re_1 re_l ra_0 ra_1 ra_l
  go_ret
  exact ⟨rfl, B⟩
end Go.Proofs.Ytahdlkdiadlgeaa
