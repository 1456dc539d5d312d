/- The walk of the law FormFinds. -/
import Derived.Test.YtakbpgljbbkmkaaLu
namespace Go.Proofs.Ytakbpgljbbkmkaa
open Go.RowKit

set_option maxRecDepth 100000 in
set_option maxHeartbeats 12800000 in
theorem formFinds_walk (h : FH) (f : Fo.Fm) (hwf : ∀ c ∈ f.cs, Fo.wf3 c) (hcap : h.cl ≤ h.cc) (k : Int) (hk : 0 ≤ k ∧ k < 65536) (v : Fo.V2) (w : World) (hS : SlF w h f) :
    Calls Try.prog 7 #[.agg #[.int .i64 h.n, .slice h.R h.rl h.rc, .slice h.E h.el h.ec, .int .i64 h.ja, .int .i64 h.jt, .int .i64 h.jf, .slice h.C h.cl h.cc], .int .u16 k, .agg #[.int .i64 v.b, .int .i64 v.p]] w fun e w' => e = .returned (.bool true) ∧ Below w.heap.size w w' := by
  have HWF := Lib.hid hwf; have HCAP := Lib.hid hcap
  have HS := Lib.hid hS
  have Q := (FB.new w h).alloc (.cells #[.int .i64 v.b, .int .i64 v.p] 30)
  have A := At2.new (w.alloc (.cells #[.int .i64 h.n, .slice h.R h.rl h.rc, .slice h.E h.el h.ec, .int .i64 h.ja, .int .i64 h.jt, .int .i64 h.jf, .slice h.C h.cl h.cc] 28)) v.b v.p 30
  rw [World.size_alloc] at A
  have B := ((Below.refl w.heap.size w).alloc (Nat.le_refl _) (.cells #[.int .i64 h.n, .slice h.R h.rl h.rc, .slice h.E h.el h.ec, .int .i64 h.ja, .int .i64 h.jt, .int .i64 h.jf, .slice h.C h.cl h.cc] 28)).alloc (by simp) (.cells #[.int .i64 v.b, .int .i64 v.p] 30)
  obtain ⟨hk0, hk1⟩ := hk
  clear hS hwf hcap
  go_enter Try.func7, Try.ntmps7
  go_wp2_with fail
  refine (head_any _).mono ?_; rintro e w2 ⟨rfl, hb⟩
  replace Q := Q.below hb; replace A := A.below hb; replace B := B.trans (hb.mono B.size); clear hb
  have q0 := Q.c0; have q1 := Q.c1; have q2 := Q.c2; have q3 := Q.c3; have q4 := Q.c4; have q5 := Q.c5; have q6 := Q.c6; have ql := Q.lt; have a0 := A.c0; have a1 := A.c1; have al := A.lt
  go_wp2_with fail
  clear q0 q1 q2 q3 q4 q5 q6 ql a0 a1 al
  obtain ⟨u, hu⟩ : ∃ u : Bool, u = true ↔ fewH h ∧ Fo.Val f := ⟨@decide _ (Classical.propDecidable _), @decide_eq_true_iff _ (Classical.propDecidable _)⟩
  have HU := Lib.hid hu
  clear hu
  refine (lusable_is h f u HU.out HCAP.out _ (HS.out.below B)).mono ?_; rintro e w3 ⟨rfl, hb⟩
  replace Q := Q.below hb; replace A := A.below hb; replace B := B.trans (hb.mono B.size); clear hb
  cases u with
  | false =>
    go_wp2_with fail
    go_ret
    exact ⟨rfl, B⟩
  | true =>
  have HV := Lib.hid (HU.out.1 rfl).2
  have q0 := Q.c0; have q1 := Q.c1; have q2 := Q.c2; have q3 := Q.c3; have q4 := Q.c4; have q5 := Q.c5; have q6 := Q.c6; have ql := Q.lt; have a0 := A.c0; have a1 := A.c1; have al := A.lt
  go_wp2_with fail
  clear q0 q1 q2 q3 q4 q5 q6 ql a0 a1 al
  refine (wUnfold_is h f HV.out HWF.out _ (HS.out.below B)).mono ?_; rintro e w4 ⟨hb, uv, rfl, OV⟩
  replace Q := Q.below hb; replace A := A.below hb; replace B := B.trans (hb.mono B.size); clear hb
  obtain ⟨l, hl⟩ : ∃ l, Fo.unf f = l := ⟨_, rfl⟩
  have HLN := Lib.hid (Fo.unf_len HV.out.ok)
  rw [hl] at OV HLN
  obtain ⟨hln, LA, lc, rfl, SL, -⟩ := own_V OV
  obtain ⟨n, hn⟩ : ∃ n, l.length = n := ⟨_, rfl⟩
  rw [hn] at HLN ⊢
  have HN := Lib.hid hn; have HL := Lib.hid hl; have HSL := Lib.hid SL
  have hnb := HLN.out
  have B4 := Below.refl w4.heap.size w4
  clear OV hl hln SL hn
  have q0 := Q.c0; have q1 := Q.c1; have q2 := Q.c2; have q3 := Q.c3; have q4 := Q.c4; have q5 := Q.c5; have q6 := Q.c6; have ql := Q.lt; have a0 := A.c0; have a1 := A.c1; have al := A.lt
  go_wp2_with fail
  clear q0 q1 q2 q3 q4 q5 q6 ql a0 a1 al
  obtain ⟨r, hr⟩ : ∃ r, Fo.vix (Fo.unf f) v = r := ⟨_, rfl⟩
  have HR := Lib.hid hr
  clear hr
  refine (wFind_is h f v r HV.out HR.out HWF.out _ (HS.out.below B)).mono ?_; rintro e w5 ⟨hb, rfl⟩
  replace B4 := B4.trans hb
  replace Q := Q.below hb; replace A := A.below hb; replace B := B.trans (hb.mono B.size); clear hb
  have HRB : Hid (-1 ≤ r ∧ r < (n : Int)) := Lib.hid (by
    have h1 := Fo.vix_ge (Fo.unf f) v
    have h2 := Fo.vix_lt (Fo.unf f) v
    rw [HR.out] at h1 h2
    rw [HL.out, HN.out] at h2
    exact ⟨h1, h2⟩)
  obtain ⟨hr0, hr1⟩ := HRB.out
  by_cases hr2 : r < 0
  case pos =>
    obtain rfl : r = -1 := by omega
    rw [show (if (-1 : Int) < 0 then (0 : Int) else -1) = 0 from rfl, show decide ((0 : Int) ≤ -1) = false from rfl]
    have hne := Ext.there w5
    clear hr0 hr1 hr2
    go_wp2_with fail
    refine Ext.region (by kernel_rfl) (by kernel_rfl) ?_
    repeat (go_big_quiet_step (fail))
    refine wpQuiet_nil ?_
    rintro _ ⟨xw, rfl⟩
    have hb := xw.h
    replace B4 := B4.trans (hb.mono B4.size)
    replace Q := Q.below hb; replace A := A.below hb; replace B := B.trans (hb.mono B.size); clear hb
    clear hne
    generalize xw.w = w6 at *
    clear xw
    by_cases hn0 : n = 0
    case pos =>
      subst hn0
      go_wp2_with fail
      go_ret
      exact ⟨rfl, B⟩
    case neg =>
      have hne0 : ((n : Int) == 0) = false := by simp; omega
      obtain ⟨g, hg⟩ : ∃ g : Nat, g = k.toNat % n := ⟨_, rfl⟩
      have hgn : g < n := by rw [hg]; exact Nat.mod_lt _ (by omega)
      have HGM : Hid (Int.tmod k (n : Int) = (g : Int)) := Lib.hid (by
        obtain ⟨kk, rfl⟩ : ∃ kk : Nat, k = kk := ⟨k.toNat, by omega⟩
        rw [hg]
        rfl)
      have hgl : g < l.length := by rw [HN.out]; exact hgn
      obtain ⟨bb, off, hLA, hbb, hcc⟩ := HSL.out (by omega)
      subst hLA
      obtain ⟨x, hx⟩ : ∃ x, atV l g = x := ⟨_, rfl⟩
      have hX := (hcc g hgl).below B4 hbb
      rw [hx] at hX
      have HFX : Hid (Fo.vix (Fo.unf f) x = (g : Int)) := Lib.hid (by rw [← hx, ← HL.out]; exact Fo.unf_once (by rw [HL.out]; exact hgl))
      have hgi : (g : Int) < (n : Int) := by omega
      have z0 := fun y : Ext w6 => y.cell hX.c0; have z1 := fun y : Ext w6 => y.cell hX.c1
      have y0 := fun y : Ext w6 => y.cell Q.c0; have y1 := fun y : Ext w6 => y.cell Q.c1; have y2 := fun y : Ext w6 => y.cell Q.c2; have y3 := fun y : Ext w6 => y.cell Q.c3; have y4 := fun y : Ext w6 => y.cell Q.c4; have y5 := fun y : Ext w6 => y.cell Q.c5; have y6 := fun y : Ext w6 => y.cell Q.c6
      have hne := Ext.there w6
      have HS6 := Lib.hid (HS.out.below B)
      have HC := fun y : Ext w6 => (wFind_is h f x (g : Int) HV.out HFX.out HWF.out y.w (HS6.out.below y.h)).mono (fun e w' hh => And.intro hh.2 hh.1)
      rw [if_neg (show ¬ (g : Int) < 0 by omega), show decide ((0 : Int) ≤ (g : Int)) = true from decide_eq_true (by omega)] at HC
      have hgm := HGM.out
      clear hg hgl hcc hX hx HSL
      go_wp2_with fail
      refine Ext.region (by kernel_rfl) (by kernel_rfl) ?_
      repeat (go_big_quiet_step ((go_at_call 16; exact Ext.call _ (HC _))))
      refine wpQuiet_nil ?_
      rintro _ ⟨xw, rfl⟩
      have hb := xw.h
      replace B := B.trans (hb.mono B.size)
      clear z0 z1 y0 y1 y2 y3 y4 y5 y6 hne HC
      generalize xw.w = w7 at *
      clear xw
      go_wp2_with fail
      go_ret
      exact ⟨rfl, B⟩
  case neg =>
    rw [if_neg hr2, show decide (0 ≤ r) = true from decide_eq_true (by omega)]
    obtain ⟨rn, rfl⟩ : ∃ rn : Nat, r = rn := ⟨r.toNat, by omega⟩
    have hrl : rn < l.length := by rw [HN.out]; omega
    obtain ⟨b1, o1, hLA, hb1, hc1⟩ := HSL.out (by omega)
    have hX := (hc1 rn hrl).below B4 hb1
    have hxv : atV l rn = v := by
      have h1 := Fo.vix_at (l := Fo.unf f) (c := v) (by rw [HR.out]; omega)
      rw [HR.out, HL.out] at h1
      exact h1
    rw [hxv] at hX
    have z0 := fun y : Ext w5 => y.cell hX.c0; have z1 := fun y : Ext w5 => y.cell hX.c1
    have x0 := fun y : Ext w5 => y.cell A.c0; have x1 := fun y : Ext w5 => y.cell A.c1
    have hne := Ext.there w5
    have heq := fun W => eqVisit v v true ⟨fun _ => rfl, fun _ => rfl⟩ W
    have hd0 : decide ((rn : Int) < 0) = false := decide_eq_false (by omega)
    have hd1 : decide (n ≤ rn) = false := decide_eq_false (by omega)
    clear hc1 hX hxv hrl
    rw [hLA]
    go_wp2_with fail
    refine Ext.region (by kernel_rfl) (by kernel_rfl) ?_
    repeat (go_big_quiet_step (simp only [heq]))
    refine wpQuiet_nil ?_
    rintro _ ⟨xw, rfl⟩
    have hb := xw.h
    replace B4 := B4.trans (hb.mono B4.size)
    replace Q := Q.below hb; replace A := A.below hb; replace B := B.trans (hb.mono B.size); clear hb
    clear z0 z1 x0 x1 hne heq
    generalize xw.w = w6 at *
    clear xw
    by_cases hn0 : n = 0
    case pos =>
      subst hn0
      omega
    case neg =>
      have hne0 : ((n : Int) == 0) = false := by simp; omega
      obtain ⟨g, hg⟩ : ∃ g : Nat, g = k.toNat % n := ⟨_, rfl⟩
      have hgn : g < n := by rw [hg]; exact Nat.mod_lt _ (by omega)
      have HGM : Hid (Int.tmod k (n : Int) = (g : Int)) := Lib.hid (by
        obtain ⟨kk, rfl⟩ : ∃ kk : Nat, k = kk := ⟨k.toNat, by omega⟩
        rw [hg]
        rfl)
      have hgl : g < l.length := by rw [HN.out]; exact hgn
      obtain ⟨bb, off, hLA2, hbb, hcc⟩ := HSL.out (by omega)
      obtain ⟨rfl, rfl⟩ : b1 = bb ∧ o1 = off := by rw [hLA] at hLA2; cases hLA2; exact ⟨rfl, rfl⟩
      obtain ⟨x, hx⟩ : ∃ x, atV l g = x := ⟨_, rfl⟩
      have hX := (hcc g hgl).below B4 hbb
      rw [hx] at hX
      have HFX : Hid (Fo.vix (Fo.unf f) x = (g : Int)) := Lib.hid (by rw [← hx, ← HL.out]; exact Fo.unf_once (by rw [HL.out]; exact hgl))
      have hgi : (g : Int) < (n : Int) := by omega
      have z0 := fun y : Ext w6 => y.cell hX.c0; have z1 := fun y : Ext w6 => y.cell hX.c1
      have y0 := fun y : Ext w6 => y.cell Q.c0; have y1 := fun y : Ext w6 => y.cell Q.c1; have y2 := fun y : Ext w6 => y.cell Q.c2; have y3 := fun y : Ext w6 => y.cell Q.c3; have y4 := fun y : Ext w6 => y.cell Q.c4; have y5 := fun y : Ext w6 => y.cell Q.c5; have y6 := fun y : Ext w6 => y.cell Q.c6
      have hne := Ext.there w6
      have HS6 := Lib.hid (HS.out.below B)
      have HC := fun y : Ext w6 => (wFind_is h f x (g : Int) HV.out HFX.out HWF.out y.w (HS6.out.below y.h)).mono (fun e w' hh => And.intro hh.2 hh.1)
      rw [if_neg (show ¬ (g : Int) < 0 by omega), show decide ((0 : Int) ≤ (g : Int)) = true from decide_eq_true (by omega)] at HC
      have hgm := HGM.out
      clear hg hgl hcc hX hx HSL
      go_wp2_with fail
      refine Ext.region (by kernel_rfl) (by kernel_rfl) ?_
      repeat (go_big_quiet_step ((go_at_call 16; exact Ext.call _ (HC _))))
      refine wpQuiet_nil ?_
      rintro _ ⟨xw, rfl⟩
      have hb := xw.h
      replace B := B.trans (hb.mono B.size)
      clear z0 z1 y0 y1 y2 y3 y4 y5 y6 hne HC
      generalize xw.w = w7 at *
      clear xw
      go_wp2_with fail
      go_ret
      exact ⟨rfl, B⟩
end Go.Proofs.Ytakbpgljbbkmkaa
