import Derived.Test.YtahdlkdiadlgeaaGreatGAV
import Derived.Test.YtahdlkdiadlgeaaGreatGAP
/- The walk of the law TempoMatchesReference; the laws' usable. -/
namespace Go.Proofs.YtahdlkdiadlgeaaGreat
open Go.RowKit

set_option maxRecDepth 100000 in
set_option maxHeartbeats 25600000 in
theorem tempoMatchesReference_walk (n1 c1 : Nat) (A1 : Option Addr) (bs : List Mt.B) (h1 : bs.length = n1) (n2 c2 : Nat) (A2 : Option Addr) (l : List Fo.T3) (h2 : l.length = n2) (bar : Int) (a an ad b bn bd : Int) (h : FH) (f : Fo.Fm) (hcap : h.cl ≤ h.cc) (i j : Int) (hwf : Mt.Wf bs) (hw3 : ∀ c ∈ f.cs, Fo.wf3 c) (w : World) (hB : SlB w A1 bs) (hL : SlT w A2 l) (hF : SlF w h f) :
    Calls Tryz.prog 3 #[.slice A1 n1 c1, .slice A2 n2 c2, .int .i64 bar, .agg #[.int .i64 a, .int .i64 an, .int .i64 ad], .agg #[.int .i64 b, .int .i64 bn, .int .i64 bd], .agg #[.int .i64 h.n, .slice h.R h.rl h.rc, .slice h.E h.el h.ec, .int .i64 h.ja, .int .i64 h.jt, .int .i64 h.jf, .slice h.C h.cl h.cc], .int .i64 i, .int .i64 j] w fun e w' => e = .returned (.bool true) ∧ Below w.heap.size w w' := by
  have HWF := Lib.hid hwf
  clear hwf
  have HW3 := Lib.hid hw3
  clear hw3
  obtain ⟨N1, D1, E1, AA⟩ := Te.atA_ex bs l bar
  obtain ⟨N2, D2, E2, AS⟩ := Te.secA_ex bs l a an ad b bn bd
  obtain ⟨N3, D3, E3, AP⟩ := Te.plaA_ex bs l f i j
  obtain ⟨u, hu⟩ : ∃ u : Bool, u = true ↔ fewT h n1 n2 := ⟨@decide _ (Classical.propDecidable _), @decide_eq_true_iff _ (Classical.propDecidable _)⟩
  obtain ⟨uv, huv⟩ : ∃ u : Bool, u = true ↔ Te.Val bs l := ⟨@decide _ (Classical.propDecidable _), @decide_eq_true_iff _ (Classical.propDecidable _)⟩
  replace AA := Lib.hid AA; replace AS := Lib.hid AS; replace AP := Lib.hid AP; have HU := Lib.hid hu; have HUV := Lib.hid huv; have HN1 := Lib.hid h1; have HN2 := Lib.hid h2; have HB := Lib.hid hB; have HL := Lib.hid hL; have HF := Lib.hid hF; have HCAP := Lib.hid hcap
  clear hu huv h1 h2 hB hL hF hcap
  have P := ((Var3.new w a an ad 27).alloc (.cells #[.int .i64 b, .int .i64 bn, .int .i64 bd] 27)).alloc (.cells #[.int .i64 h.n, .slice h.R h.rl h.rc, .slice h.E h.el h.ec, .int .i64 h.ja, .int .i64 h.jt, .int .i64 h.jf, .slice h.C h.cl h.cc] 34)
  have Q := (Var3.new (w.alloc (.cells #[.int .i64 a, .int .i64 an, .int .i64 ad] 27)) b bn bd 27).alloc (.cells #[.int .i64 h.n, .slice h.R h.rl h.rc, .slice h.E h.el h.ec, .int .i64 h.ja, .int .i64 h.jt, .int .i64 h.jf, .slice h.C h.cl h.cc] 34)
  have F := FB.new ((w.alloc (.cells #[.int .i64 a, .int .i64 an, .int .i64 ad] 27)).alloc (.cells #[.int .i64 b, .int .i64 bn, .int .i64 bd] 27)) h
  rw [World.size_alloc] at Q
  rw [World.size_alloc, World.size_alloc] at F
  have B := (((Below.refl w.heap.size w).alloc (Nat.le_refl _) (.cells #[.int .i64 a, .int .i64 an, .int .i64 ad] 27)).alloc (by simp) (.cells #[.int .i64 b, .int .i64 bn, .int .i64 bd] 27)).alloc (by simp; omega) (.cells #[.int .i64 h.n, .slice h.R h.rl h.rc, .slice h.E h.el h.ec, .int .i64 h.ja, .int .i64 h.jt, .int .i64 h.jf, .slice h.C h.cl h.cc] 34)
  go_enter Tryz.func3, Tryz.ntmps3
  go_wp2_with fail
  refine (head_any _).mono ?_; rintro e w1 ⟨rfl, hb⟩
  replace P := P.below hb; replace Q := Q.below hb; replace F := F.below hb; replace B := B.trans (hb.mono B.size); clear hb
  have f_0 := F.c0; have f_1 := F.c1; have f_2 := F.c2; have f_3 := F.c3; have f_4 := F.c4; have f_5 := F.c5; have f_6 := F.c6; have f_l := F.lt
  go_wp2_with fail
  clear f_0 f_1 f_2 f_3 f_4 f_5 f_6 f_l
  refine (rtfew_is h n1 c1 n2 c2 A1 A2 u HU.out _).mono ?_; rintro e w2 ⟨rfl, hb⟩
  replace P := P.below hb; replace Q := Q.below hb; replace F := F.below hb; replace B := B.trans (hb.mono B.size); clear hb
  cases u with
  | false =>
    go_wp2_with fail
    go_ret
    exact ⟨rfl, B⟩
  | true =>
  go_wp2_with fail
  refine (wAt_is bs l bar N1 D1 E1 AA.out n1 c1 n2 c2 A1 A2 HN1.out HN2.out HWF.out _ (HB.out.below B) (HL.out.below B)).mono ?_; rintro e w3 ⟨rfl, hb⟩
  replace P := P.below hb; replace Q := Q.below hb; replace F := F.below hb; replace B := B.trans (hb.mono B.size); clear hb
  have hF3 := F.lt
  have RA := Var2.new w3 N1 D1 25
  replace P := P.alloc (.cells #[.int .i64 N1, .int .i64 D1] 25); replace Q := Q.alloc (.cells #[.int .i64 N1, .int .i64 D1] 25); replace F := F.alloc (.cells #[.int .i64 N1, .int .i64 D1] 25); replace B := B.alloc B.size (.cells #[.int .i64 N1, .int .i64 D1] 25)
  go_wp2_with fail
  refine (rAt_is bs l bar N1 D1 E1 AA.out n1 c1 n2 c2 A1 A2 HN1.out HN2.out _ (HB.out.below B) (HL.out.below B)).mono ?_; rintro e w4 ⟨rfl, hb⟩
  replace P := P.below hb; replace Q := Q.below hb; replace F := F.below hb; replace RA := RA.below hb; replace B := B.trans (hb.mono B.size); clear hb
  have hA3 := RA.at2.lt
  have RB := Var2.new w4 N1 D1 25
  replace P := P.alloc (.cells #[.int .i64 N1, .int .i64 D1] 25); replace Q := Q.alloc (.cells #[.int .i64 N1, .int .i64 D1] 25); replace F := F.alloc (.cells #[.int .i64 N1, .int .i64 D1] 25); replace RA := RA.alloc (.cells #[.int .i64 N1, .int .i64 D1] 25); replace B := B.alloc B.size (.cells #[.int .i64 N1, .int .i64 D1] 25)
  go_wp2_with fail
  refine (wtvalid_is bs l uv n1 c1 n2 c2 A1 A2 HUV.out HN1.out HN2.out HWF.out _ (HB.out.below B) (HL.out.below B)).mono ?_; rintro e w5 ⟨rfl, hb⟩
  replace P := P.below hb; replace Q := Q.below hb; replace F := F.below hb; replace RA := RA.below hb; replace RB := RB.below hb; replace B := B.trans (hb.mono B.size); clear hb
  go_wp2_with fail
  refine (rtvalid_is bs l uv n1 c1 n2 c2 A1 A2 HUV.out HN1.out HN2.out _ (HB.out.below B) (HL.out.below B)).mono ?_; rintro e w6 ⟨rfl, hb⟩
  replace P := P.below hb; replace Q := Q.below hb; replace F := F.below hb; replace RA := RA.below hb; replace RB := RB.below hb; replace B := B.trans (hb.mono B.size); clear hb
  have heq := fun W => eqRatT N1 D1 N1 D1 true ⟨fun _ => ⟨rfl, rfl⟩, fun _ => rfl⟩ W
  have ra_0 := RA.at2.c0; have ra_1 := RA.at2.c1; have ra_l := RA.at2.lt
  have rb_0 := RB.at2.c0; have rb_1 := RB.at2.c1; have rb_l := RB.at2.lt
  have p_0 := P.at3.c0; have p_1 := P.at3.c1; have p_2 := P.at3.c2; have p_l := P.at3.lt
  have q_0 := Q.at3.c0; have q_1 := Q.at3.c1; have q_2 := Q.at3.c2; have q_l := Q.at3.lt
  go_wp2_with fail
  clear ra_0 ra_1 ra_l rb_0 rb_1 rb_l p_0 p_1 p_2 p_l q_0 q_1 q_2 q_l
  clear heq
  refine (wSeconds_is bs l a an ad b bn bd N2 D2 E2 AS.out n1 c1 n2 c2 A1 A2 HN1.out HN2.out HWF.out _ (HB.out.below B) (HL.out.below B)).mono ?_; rintro e w7 ⟨rfl, hb⟩
  replace P := P.below hb; replace Q := Q.below hb; replace F := F.below hb; replace RA := RA.below hb; replace RB := RB.below hb; replace B := B.trans (hb.mono B.size); clear hb
  have p_0 := P.at3.c0; have p_1 := P.at3.c1; have p_2 := P.at3.c2; have p_l := P.at3.lt
  have q_0 := Q.at3.c0; have q_1 := Q.at3.c1; have q_2 := Q.at3.c2; have q_l := Q.at3.lt
  have ra_0 := RA.at2.c0; have ra_1 := RA.at2.c1; have ra_l := RA.at2.lt
  have ra_f0 := RA.f0; have ra_f1 := RA.f1
  go_wp2_with fail
  clear p_0 p_1 p_2 p_l q_0 q_1 q_2 q_l ra_0 ra_1 ra_l ra_f0 ra_f1
  have hal := RA.at2.lt; have hbl := RB.at2.lt
  replace P := (P.ne (w3.heap.size) 0 (.int .i64 N2) (by omega)).ne (w3.heap.size) 1 (.int .i64 D2) (by omega)
  replace Q := (Q.ne (w3.heap.size) 0 (.int .i64 N2) (by omega)).ne (w3.heap.size) 1 (.int .i64 D2) (by omega)
  replace F := (F.other (p := ⟨w3.heap.size, 0, none⟩) (show w.heap.size + 1 + 1 ≠ w3.heap.size by omega) (.int .i64 N2)).other (p := ⟨w3.heap.size, 1, none⟩) (show w.heap.size + 1 + 1 ≠ w3.heap.size by omega) (.int .i64 D2)
  replace RB := (RB.ne (w3.heap.size) 0 (.int .i64 N2) (by omega)).ne (w3.heap.size) 1 (.int .i64 D2) (by omega)
  replace RA := RA.put N2 D2
  replace B := (B.setCell (p := ⟨w3.heap.size, 0, none⟩) (show w.heap.size ≤ w3.heap.size by omega) (.int .i64 N2)).setCell (p := ⟨w3.heap.size, 1, none⟩) (show w.heap.size ≤ w3.heap.size by omega) (.int .i64 D2)
  obtain ⟨z7, hz⟩ : ∃ z, (w7.setCell ⟨w3.heap.size, 0, none⟩ (.int .i64 N2)).setCell ⟨w3.heap.size, 1, none⟩ (.int .i64 D2) = z := ⟨_, rfl⟩
  rw [hz] at B P Q F RA RB
  rw [hz]
  clear hz
  refine (rSeconds_is bs l a an ad b bn bd N2 D2 E2 AS.out n1 c1 n2 c2 A1 A2 HN1.out HN2.out _ (HB.out.below B) (HL.out.below B)).mono ?_; rintro e w8 ⟨rfl, hb⟩
  replace P := P.below hb; replace Q := Q.below hb; replace F := F.below hb; replace RA := RA.below hb; replace RB := RB.below hb; replace B := B.trans (hb.mono B.size); clear hb
  have heq := fun W => eqRatT N2 D2 N2 D2 true ⟨fun _ => ⟨rfl, rfl⟩, fun _ => rfl⟩ W
  have hxy : ¬ w3.heap.size = w4.heap.size := (by omega)
  have hyx : ¬ w4.heap.size = w3.heap.size := (by omega)
  have f_0 := F.c0; have f_1 := F.c1; have f_2 := F.c2; have f_3 := F.c3; have f_4 := F.c4; have f_5 := F.c5; have f_6 := F.c6; have f_l := F.lt
  have ra_0 := RA.at2.c0; have ra_1 := RA.at2.c1; have ra_l := RA.at2.lt
  have rb_0 := RB.at2.c0; have rb_1 := RB.at2.c1; have rb_l := RB.at2.lt
  have rb_f0 := RB.f0; have rb_f1 := RB.f1
  go_wp2_with fail
  clear f_0 f_1 f_2 f_3 f_4 f_5 f_6 f_l ra_0 ra_1 ra_l rb_0 rb_1 rb_l rb_f0 rb_f1
  clear hxy hyx heq
  replace P := (P.ne (w4.heap.size) 0 (.int .i64 N2) (by omega)).ne (w4.heap.size) 1 (.int .i64 D2) (by omega)
  replace Q := (Q.ne (w4.heap.size) 0 (.int .i64 N2) (by omega)).ne (w4.heap.size) 1 (.int .i64 D2) (by omega)
  replace F := (F.other (p := ⟨w4.heap.size, 0, none⟩) (show w.heap.size + 1 + 1 ≠ w4.heap.size by omega) (.int .i64 N2)).other (p := ⟨w4.heap.size, 1, none⟩) (show w.heap.size + 1 + 1 ≠ w4.heap.size by omega) (.int .i64 D2)
  replace RA := (RA.ne (w4.heap.size) 0 (.int .i64 N2) (by omega)).ne (w4.heap.size) 1 (.int .i64 D2) (by omega)
  replace RB := RB.put N2 D2
  replace B := (B.setCell (p := ⟨w4.heap.size, 0, none⟩) (show w.heap.size ≤ w4.heap.size by omega) (.int .i64 N2)).setCell (p := ⟨w4.heap.size, 1, none⟩) (show w.heap.size ≤ w4.heap.size by omega) (.int .i64 D2)
  obtain ⟨z8, hz⟩ : ∃ z, (w8.setCell ⟨w4.heap.size, 0, none⟩ (.int .i64 N2)).setCell ⟨w4.heap.size, 1, none⟩ (.int .i64 D2) = z := ⟨_, rfl⟩
  rw [hz] at B P Q F RA RB
  try rw [hz]
  clear hz
  refine (wPlayed_is bs l h f i j N3 D3 E3 AP.out n1 c1 n2 c2 A1 A2 HN1.out HN2.out HWF.out HW3.out _ (HB.out.below B) (HL.out.below B) (HF.out.below B)).mono ?_; rintro e w9 ⟨rfl, hb⟩
  replace P := P.below hb; replace Q := Q.below hb; replace F := F.below hb; replace RA := RA.below hb; replace RB := RB.below hb; replace B := B.trans (hb.mono B.size); clear hb
  have f_0 := F.c0; have f_1 := F.c1; have f_2 := F.c2; have f_3 := F.c3; have f_4 := F.c4; have f_5 := F.c5; have f_6 := F.c6; have f_l := F.lt
  have ra_0 := RA.at2.c0; have ra_1 := RA.at2.c1; have ra_l := RA.at2.lt
  have ra_f0 := RA.f0; have ra_f1 := RA.f1
  go_wp2_with fail
  clear f_0 f_1 f_2 f_3 f_4 f_5 f_6 f_l ra_0 ra_1 ra_l ra_f0 ra_f1
  have hal := RA.at2.lt; have hbl := RB.at2.lt
  replace P := (P.ne (w3.heap.size) 0 (.int .i64 N3) (by omega)).ne (w3.heap.size) 1 (.int .i64 D3) (by omega)
  replace Q := (Q.ne (w3.heap.size) 0 (.int .i64 N3) (by omega)).ne (w3.heap.size) 1 (.int .i64 D3) (by omega)
  replace F := (F.other (p := ⟨w3.heap.size, 0, none⟩) (show w.heap.size + 1 + 1 ≠ w3.heap.size by omega) (.int .i64 N3)).other (p := ⟨w3.heap.size, 1, none⟩) (show w.heap.size + 1 + 1 ≠ w3.heap.size by omega) (.int .i64 D3)
  replace RB := (RB.ne (w3.heap.size) 0 (.int .i64 N3) (by omega)).ne (w3.heap.size) 1 (.int .i64 D3) (by omega)
  replace RA := RA.put N3 D3
  replace B := (B.setCell (p := ⟨w3.heap.size, 0, none⟩) (show w.heap.size ≤ w3.heap.size by omega) (.int .i64 N3)).setCell (p := ⟨w3.heap.size, 1, none⟩) (show w.heap.size ≤ w3.heap.size by omega) (.int .i64 D3)
  obtain ⟨z9, hz⟩ : ∃ z, (w9.setCell ⟨w3.heap.size, 0, none⟩ (.int .i64 N3)).setCell ⟨w3.heap.size, 1, none⟩ (.int .i64 D3) = z := ⟨_, rfl⟩
  rw [hz] at B P Q F RA RB
  rw [hz]
  clear hz
  refine (rPlayed_is bs l h f i j N3 D3 E3 AP.out n1 c1 n2 c2 A1 A2 HN1.out HN2.out HCAP.out _ (HB.out.below B) (HL.out.below B) (HF.out.below B)).mono ?_; rintro e w10 ⟨rfl, hb⟩
  replace P := P.below hb; replace Q := Q.below hb; replace F := F.below hb; replace RA := RA.below hb; replace RB := RB.below hb; replace B := B.trans (hb.mono B.size); clear hb
  have heq := fun W => eqRatT N3 D3 N3 D3 true ⟨fun _ => ⟨rfl, rfl⟩, fun _ => rfl⟩ W
  have hxy : ¬ w3.heap.size = w4.heap.size := (by omega)
  have hyx : ¬ w4.heap.size = w3.heap.size := (by omega)
  have ra_0 := RA.at2.c0; have ra_1 := RA.at2.c1; have ra_l := RA.at2.lt
  have rb_0 := RB.at2.c0; have rb_1 := RB.at2.c1; have rb_l := RB.at2.lt
  have rb_f0 := RB.f0; have rb_f1 := RB.f1
  go_wp2_with fail
  clear ra_0 ra_1 ra_l rb_0 rb_1 rb_l rb_f0 rb_f1
  clear hxy hyx heq
  replace P := (P.ne (w4.heap.size) 0 (.int .i64 N3) (by omega)).ne (w4.heap.size) 1 (.int .i64 D3) (by omega)
  replace Q := (Q.ne (w4.heap.size) 0 (.int .i64 N3) (by omega)).ne (w4.heap.size) 1 (.int .i64 D3) (by omega)
  replace F := (F.other (p := ⟨w4.heap.size, 0, none⟩) (show w.heap.size + 1 + 1 ≠ w4.heap.size by omega) (.int .i64 N3)).other (p := ⟨w4.heap.size, 1, none⟩) (show w.heap.size + 1 + 1 ≠ w4.heap.size by omega) (.int .i64 D3)
  replace RA := (RA.ne (w4.heap.size) 0 (.int .i64 N3) (by omega)).ne (w4.heap.size) 1 (.int .i64 D3) (by omega)
  replace RB := RB.put N3 D3
  replace B := (B.setCell (p := ⟨w4.heap.size, 0, none⟩) (show w.heap.size ≤ w4.heap.size by omega) (.int .i64 N3)).setCell (p := ⟨w4.heap.size, 1, none⟩) (show w.heap.size ≤ w4.heap.size by omega) (.int .i64 D3)
  obtain ⟨z10, hz⟩ : ∃ z, (w10.setCell ⟨w4.heap.size, 0, none⟩ (.int .i64 N3)).setCell ⟨w4.heap.size, 1, none⟩ (.int .i64 D3) = z := ⟨_, rfl⟩
  rw [hz] at B P Q F RA RB
  try rw [hz]
  clear hz
  go_ret
  exact ⟨rfl, B⟩
end Go.Proofs.YtahdlkdiadlgeaaGreat
