/- The walk of the law FormSteps. -/
import Derived.Test.YtakbpgljbbkmkaaLx
namespace Go.Proofs.Ytakbpgljbbkmkaa
open Go.RowKit

theorem FW.fb {w : World} {b : Nat} {h : FH} (s : FW w b h) : FB w b h := s.a
set_option maxRecDepth 100000 in
set_option maxHeartbeats 12800000 in
theorem formSteps_walk (h : FH) (f : Fo.Fm) (_hwf : ∀ c ∈ f.cs, Fo.wf3 c) (_hcap : h.cl ≤ h.cc) (w : World) (hS : SlF w h f) :
    Calls Try.prog 5 #[.agg #[.int .i64 h.n, .slice h.R h.rl h.rc, .slice h.E h.el h.ec, .int .i64 h.ja, .int .i64 h.jt, .int .i64 h.jf, .slice h.C h.cl h.cc]] w fun e w' => e = .returned (.bool true) ∧ Below w.heap.size w w' := by
  have HS := Lib.hid (hS.unc none 0)
  have G := (FV.new w h).fw
  have B := (Below.refl w.heap.size w).alloc (Nat.le_refl _) (.cells #[.int .i64 h.n, .slice h.R h.rl h.rc, .slice h.E h.el h.ec, .int .i64 h.ja, .int .i64 h.jt, .int .i64 h.jf, .slice h.C h.cl h.cc] 28)
  clear hS
  go_enter Try.func5, Try.ntmps5
  go_wp2_with fail
  refine (head_any _).mono ?_; rintro e w2 ⟨rfl, hb⟩
  replace G := G.below hb; replace B := B.trans (hb.mono B.size); clear hb
  have B2 := B.setCell (p := ⟨w.heap.size, 6, none⟩) (Nat.le_refl _) (.slice none 0 0)
  have G2 := G.cuts none 0 0
  have f6 := G.f 6
  have g0 := G.a.c0; have g1 := G.a.c1; have g2 := G.a.c2; have g3 := G.a.c3; have g4 := G.a.c4; have g5 := G.a.c5; have g6 := G.a.c6; have gl := G.a.lt
  go_wp2_with fail
  clear g0 g1 g2 g3 g4 g5 g6 gl f6
  clear G B
  have Q : FB (w2.setCell ⟨w.heap.size, 6, none⟩ (.slice none 0 0)) w.heap.size {h with C := none, cl := 0, cc := 0} := G2.a
  obtain ⟨X, hX⟩ : ∃ X, w2.setCell ⟨w.heap.size, 6, none⟩ (.slice none 0 0) = X := ⟨_, rfl⟩
  rw [hX] at Q B2
  rw [hX]
  have B := B2
  clear hX G2 B2
  obtain ⟨u, hu⟩ : ∃ u : Bool, u = true ↔ fewH {h with C := none, cl := 0, cc := 0} ∧ Fo.Val (Fo.unc f) := ⟨@decide _ (Classical.propDecidable _), @decide_eq_true_iff _ (Classical.propDecidable _)⟩
  have HU := Lib.hid hu
  clear hu
  refine (lusable_is {h with C := none, cl := 0, cc := 0} (Fo.unc f) u HU.out (Nat.le_refl _) _ (HS.out.below B)).mono ?_; rintro e w3 ⟨rfl, hb⟩
  replace Q := Q.below hb; replace B := B.trans (hb.mono B.size); clear hb
  cases u with
  | false =>
    go_wp2_with fail
    go_ret
    exact ⟨rfl, B⟩
  | true =>
  have HV := Lib.hid (HU.out.1 rfl).2
  have q0 := Q.c0; have q1 := Q.c1; have q2 := Q.c2; have q3 := Q.c3; have q4 := Q.c4; have q5 := Q.c5; have q6 := Q.c6; have ql := Q.lt; dsimp only at q0 q1 q2 q3 q4 q5 q6
  go_wp2_with fail
  clear q0 q1 q2 q3 q4 q5 q6 ql
  refine (wUnfold_is {h with C := none, cl := 0, cc := 0} (Fo.unc f) HV.out (fun c hc => by cases hc) _ (HS.out.below B)).mono ?_; rintro e w4 ⟨hb, uv, rfl, OV⟩
  replace Q := Q.below hb; replace B := B.trans (hb.mono B.size); clear hb
  have hun := Fo.unf_unc (Fo.unc f)
  change Fo.unf (Fo.unc f) = _ at hun
  rw [hun, Fo.vis_length] at OV
  have HLB : Hid (∀ b ∈ Fo.whl (Fo.unc f), 0 ≤ b ∧ b < 4000) := Lib.hid (fun b hb => by have := HV.out.bars b hb; have := HV.out.n; omega)
  have HWM : Hid ((Fo.whl (Fo.unc f)).length ≤ 20000) := Lib.hid HV.out.most
  obtain ⟨L, hL⟩ : ∃ L, Fo.whl (Fo.unc f) = L := ⟨_, rfl⟩
  have HST : Hid (∀ k (hk : k + 1 < L.length), Fo.Stp (Fo.unc f) L[k] L[k + 1]) := Lib.hid (by subst hL; exact fun k hk => HV.out.stp hk)
  rw [hL] at OV HLB HWM
  obtain ⟨hln, LA, lc, rfl, SL, -⟩ := own_V OV
  obtain ⟨n, hn⟩ : ∃ n, L.length = n := ⟨_, rfl⟩
  rw [hn] at HWM ⊢
  have HN := Lib.hid hn; have HSL := Lib.hid SL
  have hnb := HWM.out
  have HQ := Lib.hid Q; have HB := Lib.hid B
  clear OV hL hln hn SL hun Q B
  go_wp2_with fail
  go_loopw [3, 6] (fun s3 s6 wr => ∃ (k : Nat), (k + 1 ≤ n ∨ k = 0) ∧ s3 = .bool true ∧ s6 = .int .i64 ((k : Int) + 1) ∧ Below w4.heap.size w4 wr) (fun _ s6 _ => n - (intOf s6).toNat)
  case atStart => exact ⟨0, .inr rfl, rfl, rfl, Below.refl _ _⟩
  case round =>
    obtain ⟨k, hk, rfl, rfl, hR⟩ := hrel
    by_cases hlt : k + 1 < n
    · have hkl : k + 1 < L.length := by rw [HN.out]; exact hlt
      obtain ⟨bb, off, hLA, hbb, hcc⟩ := HSL.out (by rw [Fo.vis_length]; omega)
      have X0 := (hcc k (by rw [Fo.vis_length]; omega)).below hR hbb
      have X1 := (hcc (k + 1) (by rw [Fo.vis_length]; exact hkl)).below hR hbb
      rw [Fo.vis_at (by omega)] at X0
      rw [Fo.vis_at hkl] at X1
      have hst := HST.out k hkl
      have ha := HLB.out L[k] (List.getElem_mem _)
      have hb := HLB.out L[k + 1] (List.getElem_mem _)
      obtain ⟨a, hae⟩ : ∃ a, L[k] = a := ⟨_, rfl⟩
      obtain ⟨b, hbe⟩ : ∃ b, L[k + 1] = b := ⟨_, rfl⟩
      rw [hae] at X0 hst ha
      rw [hbe] at X1 hst hb
      have HSTP := Lib.hid hst; have HA := Lib.hid ha; have HBB := Lib.hid hb
      have Qr := HQ.out.below hR
      have HS5 := Lib.hid (HS.out.below (HB.out.trans (hR.mono HB.out.size)))
      have hk1 : (k : Int) + 1 < (n : Int) := by omega
      have hk2 : (k : Int) < (n : Int) := by omega
      have z0 := fun y : Ext wr => y.cell X0.c0
      have z1 := fun y : Ext wr => y.cell X1.c0
      have y0 := fun y : Ext wr => y.cell Qr.c0; have y1 := fun y : Ext wr => y.cell Qr.c1; have y2 := fun y : Ext wr => y.cell Qr.c2; have y3 := fun y : Ext wr => y.cell Qr.c3; have y4 := fun y : Ext wr => y.cell Qr.c4; have y5 := fun y : Ext wr => y.cell Qr.c5; have y6 := fun y : Ext wr => y.cell Qr.c6
      dsimp only at y0 y1 y2 y3 y4 y5 y6
      have hne := Ext.there wr
      have HC := fun y : Ext wr => (lfollows_is {h with C := none, cl := 0, cc := 0} (Fo.unc f) HV.out a b HSTP.out HA.out HBB.out y.w (HS5.out.below y.h))
      dsimp only at HC
      clear hcc X0 X1 hst ha hb hae hbe hkl Qr
      rw [hLA]
      go_wp2_with fail
      refine Ext.region (by kernel_rfl) (by kernel_rfl) ?_
      repeat (go_big_quiet_step ((go_at_call 26; exact Ext.call _ (HC _))))
      refine wpQuiet_nil ?_
      rintro _ ⟨xw, rfl⟩
      have hb := xw.h
      replace hR := hR.trans (hb.mono hR.size)
      clear z0 z1 y0 y1 y2 y3 y4 y5 y6 hne HC HS5
      generalize xw.w = w7 at *
      clear xw
      go_wp2_with fail
      go_roundw
      case rel => exact ⟨k + 1, .inl (by omega), rfl, by simp, hR⟩
      case measure => simp [intOf]; omega
    · have BZ := HB.out.trans (hR.mono HB.out.size)
      have hk3 : ¬ (k : Int) + 1 < (n : Int) := by omega
      clear hR HQ HB
      go_wp2_with fail
      go_ret
      exact ⟨rfl, BZ⟩
end Go.Proofs.Ytakbpgljbbkmkaa
