import Derived.Test.YtbbjifhelbeniaaGreatDoorGV
/- ScoreMatchesReference, call by call. -/
namespace Go.Proofs.YtbbjifhelbeniaaGreatDoor
open Go.RowKit

set_option maxRecDepth 100000 in
set_option maxHeartbeats 4000000 in
theorem scoreMatchesReference_walk (s : SH) (bs : List Mt.B) (ps : List Sc.Pt) (ns : List No.Nt) (hwf : WfS bs ps ns) (id nv : Int) (A : Option Addr) (len cap : Nat) (l : List No.Nt) (hl : l.length = len) (hwn : No.Wf l) (w : World) (hG : Glob w) (hS : SlS w s bs ps ns) (hA : SlO w A l) :
    Calls Tryz.prog 3 #[.agg #[.int .i64 s.v, .slice s.B s.bl s.bc, .slice s.P s.pl s.pc, .slice s.N s.nl s.nc], .int .i64 id, .int .i64 nv, .slice A len cap] w fun e w' => e = .returned (.bool true) ∧ Below w.heap.size w w' := by
  have HW := Lib.hid hwf
  have HWN := Lib.hid hwn
  have HN := Lib.hid hl
  have HL := Lib.hid (And.intro hS.bl (And.intro hS.pl hS.nl))
  clear hwf hwn hl
  by_cases q1 : s.bl ≤ 60 ∧ s.pl ≤ 61 ∧ s.nl ≤ 60
  case neg =>
    have HF := Lib.hid q1
    clear q1
    go_enter Tryz.func3, Tryz.ntmps3
    go_wp2_with fail
    have B := Below.refl w.heap.size w
    refine (head_any _ (hG.alloc _)).mono ?_; rintro e w1 ⟨rfl, hb⟩
    replace hS := (hS.alloc _).below hb
    replace hA := (hA.alloc _).below hb
    have Q := (ScB.new _ s).below hb
    replace hG := (hG.alloc _).below hb
    replace B := (B.alloc (by have := B.size; simp <;> omega) _).trans (hb.mono (by have := B.size; simp <;> omega))
    clear hb
    have lQ := Q.lt; have cQ0 := Q.c0; have cQ1 := Q.c1; have cQ2 := Q.c2; have cQ3 := Q.c3
    go_wp2_with fail
    refine (rfew_is s false ⟨(fun h => by cases h), fun h => absurd h HF.out⟩ _).mono ?_; rintro e w2 ⟨rfl, hb⟩
    replace hS := hS.below hb
    replace hA := hA.below hb
    replace Q := Q.below hb
    replace hG := hG.below hb
    replace B := B.trans (hb.mono (by have := B.size; simp <;> omega))
    clear hb lQ cQ0 cQ1 cQ2 cQ3
    have lQ := Q.lt; have cQ0 := Q.c0; have cQ1 := Q.c1; have cQ2 := Q.c2; have cQ3 := Q.c3
    go_wp2_with fail
    go_ret
    exact ⟨rfl, B⟩
  have HF := Lib.hid q1
  by_cases q2 : len ≤ 60
  case neg =>
    have h60 : (len : Int) > 60 := by omega
    clear q1 q2
    go_enter Tryz.func3, Tryz.ntmps3
    go_wp2_with fail
    have B := Below.refl w.heap.size w
    refine (head_any _ (hG.alloc _)).mono ?_; rintro e w1 ⟨rfl, hb⟩
    replace hS := (hS.alloc _).below hb
    replace hA := (hA.alloc _).below hb
    have Q := (ScB.new _ s).below hb
    replace hG := (hG.alloc _).below hb
    replace B := (B.alloc (by have := B.size; simp <;> omega) _).trans (hb.mono (by have := B.size; simp <;> omega))
    clear hb
    have lQ := Q.lt; have cQ0 := Q.c0; have cQ1 := Q.c1; have cQ2 := Q.c2; have cQ3 := Q.c3
    go_wp2_with fail
    refine (rfew_is s true ⟨fun _ => HF.out, fun _ => rfl⟩ _).mono ?_; rintro e w2 ⟨rfl, hb⟩
    replace hS := hS.below hb
    replace hA := hA.below hb
    replace Q := Q.below hb
    replace hG := hG.below hb
    replace B := B.trans (hb.mono (by have := B.size; simp <;> omega))
    clear hb lQ cQ0 cQ1 cQ2 cQ3
    have lQ := Q.lt; have cQ0 := Q.c0; have cQ1 := Q.c1; have cQ2 := Q.c2; have cQ3 := Q.c3
    go_wp2_with fail
    go_ret
    exact ⟨rfl, B⟩
  have h60 : ¬ (len : Int) > 60 := by omega
  have HM := Lib.hid (show s.bl ≤ 1000000 ∧ s.pl ≤ 1000000 ∧ s.nl ≤ 1000000 by omega)
  obtain ⟨fv, hfv⟩ : ∃ f : Bool, f = true ↔ Sc.Val s.v bs ps ns := by classical exact ⟨decide (Sc.Val s.v bs ps ns), by simp⟩
  have HFV := Lib.hid hfv
  obtain ⟨rB, hrB⟩ : ∃ r, No.bix bs id = r := ⟨_, rfl⟩
  obtain ⟨xB, fB, eB, hB⟩ := fnde_ex (Sc.Val s.v bs ps ns ∧ 1 ≤ id ∧ id ≤ 1000000) rB
  obtain ⟨rP, hrP⟩ : ∃ r, Sc.pix ps id = r := ⟨_, rfl⟩
  obtain ⟨xP, fP, eP, hP⟩ := fnde_ex (Sc.Val s.v bs ps ns ∧ 1 ≤ id ∧ id ≤ 1000000) rP
  obtain ⟨rN, hrN⟩ : ∃ r, Sc.nix ns id = r := ⟨_, rfl⟩
  obtain ⟨xN, fN, eN, hN⟩ := fnde_ex (Sc.Val s.v bs ps ns ∧ 1 ≤ id ∧ id ≤ 1000000) rN
  obtain ⟨L, eL, hLL⟩ := pli_ex (Sc.Val s.v bs ps ns) rP (Sc.play (atQ ps rP.toNat) ns)
  obtain ⟨eW, hWI⟩ := withi_ex (Sc.Val s.v bs ps ns ∧ (1 ≤ nv ∧ nv ≤ 1000000) ∧ No.Val bs l) (Sc.wrong ps l)
  obtain ⟨v', bs', ps', ns', hWL⟩ := wil_ex eW nv bs ps (No.srt (No.lt bs) l)
  have HML : Hid (bs'.length ≤ 1000000 ∧ ps'.length ≤ 1000000 ∧ ns'.length ≤ 1000000) := Lib.hid (by
    have h1 := hS.bl; have h2 := hS.pl; have h3 := HN.out
    by_cases h : eW = 0
    · obtain ⟨rfl, rfl, rfl, rfl⟩ := hWL.ok h
      rw [(No.srt_perm l).length_eq]
      omega
    · obtain ⟨rfl, rfl, rfl, rfl⟩ := hWL.no h
      simp)
  have hLn : L.length ≤ 1000000 := by
    have h1 := hS.nl
    rcases hLL with ⟨_, h, _⟩ | ⟨_, _, h, _⟩ | ⟨_, _, h, _⟩
    · rw [h]; simp
    · rw [h]; simp
    · rw [h]; have := Sc.play_len (atQ ps rP.toNat) ns; omega
  have HLN := Lib.hid hLn
  have HB := Lib.hid (And.intro hrB hB)
  have HP := Lib.hid (And.intro hrP hP)
  have HNN := Lib.hid (And.intro hrN hN)
  have HPL := Lib.hid hLL
  have HWI := Lib.hid hWI
  have HWL := Lib.hid hWL
  clear hfv hrB hB hrP hP hrN hN hLL hWI hWL hLn q1 q2
  go_enter Tryz.func3, Tryz.ntmps3
  go_wp2_with fail
  have B := Below.refl w.heap.size w
  refine (head_any _ (hG.alloc _)).mono ?_; rintro e w1 ⟨rfl, hb⟩
  replace hS := (hS.alloc _).below hb
  replace hA := (hA.alloc _).below hb
  have Q := (ScB.new _ s).below hb
  replace hG := (hG.alloc _).below hb
  replace B := (B.alloc (by have := B.size; simp <;> omega) _).trans (hb.mono (by have := B.size; simp <;> omega))
  clear hb
  have lQ := Q.lt; have cQ0 := Q.c0; have cQ1 := Q.c1; have cQ2 := Q.c2; have cQ3 := Q.c3
  go_wp2_with fail
  refine (rfew_is s true ⟨fun _ => HF.out, fun _ => rfl⟩ _).mono ?_; rintro e w2 ⟨rfl, hb⟩
  replace hS := hS.below hb
  replace hA := hA.below hb
  replace Q := Q.below hb
  replace hG := hG.below hb
  replace B := B.trans (hb.mono (by have := B.size; simp <;> omega))
  clear hb lQ cQ0 cQ1 cQ2 cQ3
  have lQ := Q.lt; have cQ0 := Q.c0; have cQ1 := Q.c1; have cQ2 := Q.c2; have cQ3 := Q.c3
  go_wp2_with fail
  clear lQ cQ0 cQ1 cQ2 cQ3
  have x0 := fun x : Ext w2 => x.cell Q.c0
  have x1 := fun x : Ext w2 => x.cell Q.c1
  have x2 := fun x : Ext w2 => x.cell Q.c2
  have x3 := fun x : Ext w2 => x.cell Q.c3
  have hne := Ext.there w2
  have HSS := Lib.hid hS; have HGG := Lib.hid hG
  refine Ext.region (by kernel_rfl) (by kernel_rfl) ?_
  repeat (go_big_quiet_step (first | (go_at_call 11; exact Ext.call _ (svalid_is s bs ps ns fv HFV.out HW.out _ (HGG.out.below (Ext.h _)) (HSS.out.below (Ext.h _)))) | (go_at_call 12; exact Ext.call _ (rval_is s bs ps ns fv HFV.out _ (HSS.out.below (Ext.h _))))))
  refine wpQuiet_nil ?_
  rintro _ ⟨xw, rfl⟩
  have hb := xw.h
  replace hS := hS.below hb
  replace hA := hA.below hb
  replace Q := Q.below hb
  replace hG := hG.below hb
  replace B := B.trans (hb.mono B.size)
  clear hb x0 x1 x2 x3 hne HSS HGG
  generalize xw.w = wv at *
  clear xw
  have lQ := Q.lt; have cQ0 := Q.c0; have cQ1 := Q.c1; have cQ2 := Q.c2; have cQ3 := Q.c3
  go_wp2_with fail
  refine (sBar_is s bs ps ns id rB xB fB eB HB.out.1 HB.out.2 HW.out _ hG hS).mono ?_; rintro e w3 ⟨rfl, hb⟩
  replace hS := hS.below hb
  replace hA := hA.below hb
  replace Q := Q.below hb
  replace hG := hG.below hb
  replace B := B.trans (hb.mono (by have := B.size; simp <;> omega))
  clear hb lQ cQ0 cQ1 cQ2 cQ3
  have lQ := Q.lt; have cQ0 := Q.c0; have cQ1 := Q.c1; have cQ2 := Q.c2; have cQ3 := Q.c3
  go_wp2_with fail
  refine (rBar_is s bs ps ns id rB xB fB eB HB.out.1 HB.out.2 _ hS).mono ?_; rintro e w4 ⟨rfl, hb⟩
  replace hS := hS.below hb
  replace hA := hA.below hb
  replace Q := Q.below hb
  replace hG := hG.below hb
  replace B := B.trans (hb.mono (by have := B.size; simp <;> omega))
  clear hb lQ cQ0 cQ1 cQ2 cQ3
  have lQ := Q.lt; have cQ0 := Q.c0; have cQ1 := Q.c1; have cQ2 := Q.c2; have cQ3 := Q.c3
  go_wp2_with fail
  refine (sPart_is s bs ps ns id rP xP fP eP HP.out.1 HP.out.2 HW.out _ hG hS).mono ?_; rintro e w5 ⟨rfl, hb⟩
  replace hS := hS.below hb
  replace hA := hA.below hb
  replace Q := Q.below hb
  replace hG := hG.below hb
  replace B := B.trans (hb.mono (by have := B.size; simp <;> omega))
  clear hb lQ cQ0 cQ1 cQ2 cQ3
  have lQ := Q.lt; have cQ0 := Q.c0; have cQ1 := Q.c1; have cQ2 := Q.c2; have cQ3 := Q.c3
  go_wp2_with fail
  refine (rPart_is s bs ps ns id rP xP fP eP HP.out.1 HP.out.2 _ hS).mono ?_; rintro e w6 ⟨rfl, hb⟩
  replace hS := hS.below hb
  replace hA := hA.below hb
  replace Q := Q.below hb
  replace hG := hG.below hb
  replace B := B.trans (hb.mono (by have := B.size; simp <;> omega))
  clear hb lQ cQ0 cQ1 cQ2 cQ3
  have lQ := Q.lt; have cQ0 := Q.c0; have cQ1 := Q.c1; have cQ2 := Q.c2; have cQ3 := Q.c3
  go_wp2_with fail
  refine (sNote_is s bs ps ns id rN xN fN eN HNN.out.1 HNN.out.2 HW.out _ hG hS).mono ?_; rintro e w7 ⟨rfl, hb⟩
  replace hS := hS.below hb
  replace hA := hA.below hb
  replace Q := Q.below hb
  replace hG := hG.below hb
  replace B := B.trans (hb.mono (by have := B.size; simp <;> omega))
  clear hb lQ cQ0 cQ1 cQ2 cQ3
  have lQ := Q.lt; have cQ0 := Q.c0; have cQ1 := Q.c1; have cQ2 := Q.c2; have cQ3 := Q.c3
  go_wp2_with fail
  refine (rNote_is s bs ps ns id rN xN fN eN HNN.out.1 HNN.out.2 _ hS).mono ?_; rintro e w8 ⟨rfl, hb⟩
  replace hS := hS.below hb
  replace hA := hA.below hb
  replace Q := Q.below hb
  replace hG := hG.below hb
  replace B := B.trans (hb.mono (by have := B.size; simp <;> omega))
  clear hb lQ cQ0 cQ1 cQ2 cQ3
  have lQ := Q.lt; have cQ0 := Q.c0; have cQ1 := Q.c1; have cQ2 := Q.c2; have cQ3 := Q.c3
  go_wp2_with fail
  refine (splaysL_is s bs ps ns id rP L eL HP.out.1 HPL.out HW.out _ hG hS).mono ?_; rintro e w9 ⟨D1, c1, rfl, L1, hb⟩
  replace hS := hS.below hb
  replace hA := hA.below hb
  replace Q := Q.below hb
  replace hG := hG.below hb
  replace B := B.trans (hb.mono (by have := B.size; simp <;> omega))
  clear hb lQ cQ0 cQ1 cQ2 cQ3
  have lQ := Q.lt; have cQ0 := Q.c0; have cQ1 := Q.c1; have cQ2 := Q.c2; have cQ3 := Q.c3
  go_wp2_with fail
  refine (rplaysL_is s bs ps ns id rP L eL HP.out.1 HPL.out _ hS).mono ?_; rintro e w10 ⟨D2, c2, rfl, L2, hb⟩
  replace hS := hS.below hb
  replace hA := hA.below hb
  replace Q := Q.below hb
  replace L1 := L1.below hb
  replace hG := hG.below hb
  replace B := B.trans (hb.mono (by have := B.size; simp <;> omega))
  clear hb lQ cQ0 cQ1 cQ2 cQ3
  have lQ := Q.lt; have cQ0 := Q.c0; have cQ1 := Q.c1; have cQ2 := Q.c2; have cQ3 := Q.c3
  go_wp2_with fail
  refine (rsameo_is L _ _ _ _ _ rfl HLN.out _ L1 L2).mono ?_; rintro e w11 ⟨rfl, hb⟩
  replace hS := hS.below hb
  replace hA := hA.below hb
  replace Q := Q.below hb
  replace L1 := L1.below hb
  replace L2 := L2.below hb
  replace hG := hG.below hb
  replace B := B.trans (hb.mono (by have := B.size; simp <;> omega))
  clear hb lQ cQ0 cQ1 cQ2 cQ3
  clear L1 L2
  have lQ := Q.lt; have cQ0 := Q.c0; have cQ1 := Q.c1; have cQ2 := Q.c2; have cQ3 := Q.c3
  go_wp2_with fail
  refine (swithL_is s bs ps ns nv l eW len cap A v' bs' ps' ns' HWI.out HWL.out HN.out HW.out HWN.out _ hG hS hA).mono ?_; rintro e w12 ⟨s1, rfl, k1, S1, hb⟩
  replace hS := hS.below hb
  replace hA := hA.below hb
  replace Q := Q.below hb
  replace hG := hG.below hb
  replace B := B.trans (hb.mono (by have := B.size; simp <;> omega))
  clear hb lQ cQ0 cQ1 cQ2 cQ3
  have HK1 := Lib.hid k1
  have HM2 := Lib.hid (show s1.bl ≤ 1000000 ∧ s1.pl ≤ 1000000 ∧ s1.nl ≤ 1000000 by rw [← S1.bl, ← S1.pl, ← S1.nl]; exact HML.out)
  clear k1
  have lQ := Q.lt; have cQ0 := Q.c0; have cQ1 := Q.c1; have cQ2 := Q.c2; have cQ3 := Q.c3
  go_wp2_with fail
  refine (rwithL_is s bs ps ns nv l eW len cap A v' bs' ps' ns' HWI.out HWL.out HN.out _ (hS.alloc _) (hA.alloc _)).mono ?_; rintro e w13 ⟨s2, rfl, k2, S2, hb⟩
  replace hS := (hS.alloc _).below hb
  replace hA := (hA.alloc _).below hb
  replace Q := (Q.alloc _).below hb
  replace S1 := (S1.alloc _).below hb
  have Q1 := (ScB.new _ s1).below hb
  replace hG := (hG.alloc _).below hb
  replace B := (B.alloc (by have := B.size; simp <;> omega) _).trans (hb.mono (by have := B.size; simp <;> omega))
  clear hb lQ cQ0 cQ1 cQ2 cQ3
  have HK2 := Lib.hid k2
  clear k2
  have lQ1 := Q1.lt; have cQ10 := Q1.c0; have cQ11 := Q1.c1; have cQ12 := Q1.c2; have cQ13 := Q1.c3
  go_wp2_with fail
  refine (rsameS_is s1 s2 bs' ps' ns' (HK1.out.trans HK2.out.symm) HM2.out _ (S1.alloc _) (S2.alloc _)).mono ?_; rintro e w14 ⟨rfl, hb⟩
  replace hS := (hS.alloc _).below hb
  replace hA := (hA.alloc _).below hb
  replace Q := (Q.alloc _).below hb
  replace S1 := (S1.alloc _).below hb
  replace Q1 := (Q1.alloc _).below hb
  replace S2 := (S2.alloc _).below hb
  have Q2 := (ScB.new _ s2).below hb
  replace hG := (hG.alloc _).below hb
  replace B := (B.alloc (by have := B.size; simp <;> omega) _).trans (hb.mono (by have := B.size; simp <;> omega))
  clear hb lQ1 cQ10 cQ11 cQ12 cQ13
  go_wp2_with fail
  go_ret
  exact ⟨rfl, B⟩
end Go.Proofs.YtbbjifhelbeniaaGreatDoor
