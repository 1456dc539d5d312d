import Derived.Test.YtbbjifhelbeniaaGreatDoorGV
/- ScoreFinds, call by call. -/
namespace Go.Proofs.YtbbjifhelbeniaaGreatDoor
open Go.RowKit

set_option maxRecDepth 100000 in
set_option maxHeartbeats 3200000 in
theorem scoreFinds_walk (s : SH) (bs : List Mt.B) (ps : List Sc.Pt) (ns : List No.Nt) (hwf : WfS bs ps ns) (wh : Int) (hwh : 0 ≤ wh ∧ wh < 65536) (id : Int) (w : World) (hG : Glob w) (hS : SlS w s bs ps ns) :
    Calls Tryz.prog 4 #[.agg #[.int .i64 s.v, .slice s.B s.bl s.bc, .slice s.P s.pl s.pc, .slice s.N s.nl s.nc], .int .u16 wh, .int .i64 id] w fun e w' => e = .returned (.bool true) ∧ Below w.heap.size w w' := by
  have HW := Lib.hid hwf
  clear hwf
  by_cases q1 : s.bl ≤ 60 ∧ s.pl ≤ 61 ∧ s.nl ≤ 60
  case neg =>
    have HF := Lib.hid q1
    clear q1
    go_enter Tryz.func4, Tryz.ntmps4
    go_wp2_with fail
    have B := Below.refl w.heap.size w
    refine (head_any _ (hG.alloc _)).mono ?_; rintro e w1 ⟨rfl, hb⟩
    replace hS := (hS.alloc _).below hb
    have Q := (ScB.new _ s).below hb
    replace hG := (hG.alloc _).below hb
    replace B := (B.alloc (by have := B.size; simp <;> omega) _).trans (hb.mono (by have := B.size; simp <;> omega))
    clear hb
    have lQ := Q.lt; have cQ0 := Q.c0; have cQ1 := Q.c1; have cQ2 := Q.c2; have cQ3 := Q.c3
    go_wp2_with fail
    refine (rfew_is s false ⟨(fun h => by cases h), fun h => absurd h HF.out⟩ _).mono ?_; rintro e w2 ⟨rfl, hb⟩
    replace hS := hS.below hb
    replace Q := Q.below hb
    replace hG := hG.below hb
    replace B := B.trans (hb.mono (by have := B.size; simp <;> omega))
    clear hb lQ cQ0 cQ1 cQ2 cQ3
    have lQ := Q.lt; have cQ0 := Q.c0; have cQ1 := Q.c1; have cQ2 := Q.c2; have cQ3 := Q.c3
    go_wp2_with fail
    go_ret
    exact ⟨rfl, B⟩
  have HF := Lib.hid q1
  by_cases q3 : Sc.Val s.v bs ps ns
  case neg =>
    have HV := Lib.hid q3
    clear q1 q3
    go_enter Tryz.func4, Tryz.ntmps4
    go_wp2_with fail
    have B := Below.refl w.heap.size w
    refine (head_any _ (hG.alloc _)).mono ?_; rintro e w1 ⟨rfl, hb⟩
    replace hS := (hS.alloc _).below hb
    have Q := (ScB.new _ s).below hb
    replace hG := (hG.alloc _).below hb
    replace B := (B.alloc (by have := B.size; simp <;> omega) _).trans (hb.mono (by have := B.size; simp <;> omega))
    clear hb
    have lQ := Q.lt; have cQ0 := Q.c0; have cQ1 := Q.c1; have cQ2 := Q.c2; have cQ3 := Q.c3
    go_wp2_with fail
    refine (rfew_is s true ⟨fun _ => HF.out, fun _ => rfl⟩ _).mono ?_; rintro e w2 ⟨rfl, hb⟩
    replace hS := hS.below hb
    replace Q := Q.below hb
    replace hG := hG.below hb
    replace B := B.trans (hb.mono (by have := B.size; simp <;> omega))
    clear hb lQ cQ0 cQ1 cQ2 cQ3
    have lQ := Q.lt; have cQ0 := Q.c0; have cQ1 := Q.c1; have cQ2 := Q.c2; have cQ3 := Q.c3
    go_wp2_with fail
    refine (rval_is s bs ps ns false ⟨(fun h => by cases h), fun h => absurd h HV.out⟩ _ hS).mono ?_; rintro e w3 ⟨rfl, hb⟩
    replace hS := hS.below hb
    replace Q := Q.below hb
    replace hG := hG.below hb
    replace B := B.trans (hb.mono (by have := B.size; simp <;> omega))
    clear hb lQ cQ0 cQ1 cQ2 cQ3
    have lQ := Q.lt; have cQ0 := Q.c0; have cQ1 := Q.c1; have cQ2 := Q.c2; have cQ3 := Q.c3
    go_wp2_with fail
    go_ret
    exact ⟨rfl, B⟩
  have HV := Lib.hid q3
  have HF := Lib.hid q1
  obtain ⟨h61, h62, h63⟩ := q1
  have hbl := hS.bl; have hpl := hS.pl; have hnl := hS.nl
  have hb0 : 0 < bs.length := q3.notes.1.1
  have hp0 : 0 < ps.length := q3.parts.1.1
  obtain ⟨bb, ofb, hBe, hbb, hcB⟩ := hS.sb hb0
  obtain ⟨bp, ofp, hPe, hbp, hcP⟩ := hS.sp hp0
  obtain ⟨sv, sB, bl, bc, sP, pl, pc, sN, nl, nc⟩ := s
  dsimp only at hbl hpl hnl hBe hPe HF HV h61 h62 h63 q3 ⊢
  subst hBe hPe
  have hbl0 : ¬ (bl : Int) = 0 := by omega
  have hpl0 : ¬ (pl : Int) = 0 := by omega
  obtain ⟨b, hb⟩ : ∃ b, wh.toNat % bl = b := ⟨_, rfl⟩
  have hblt : b < bl := by rw [← hb]; exact Nat.mod_lt _ (by omega)
  have hbt : wh.tmod (bl : Int) = (b : Int) := by rw [Int.tmod_eq_emod_of_nonneg hwh.1, ← hb, Int.natCast_emod, Int.toNat_of_nonneg hwh.1]
  obtain ⟨p, hp⟩ : ∃ p, wh.toNat % pl = p := ⟨_, rfl⟩
  have hplt : p < pl := by rw [← hp]; exact Nat.mod_lt _ (by omega)
  have hpt : wh.tmod (pl : Int) = (p : Int) := by rw [Int.tmod_eq_emod_of_nonneg hwh.1, ← hp, Int.natCast_emod, Int.toNat_of_nonneg hwh.1]
  have hblt2 : (b : Int) < (bl : Int) := by omega
  have hplt2 : (p : Int) < (pl : Int) := by omega
  have hbi : b < bs.length := by omega
  have hpi : p < ps.length := by omega
  have k1 := No.bix_of q3.notes.1 hbi
  have k2 := Sc.pix_of q3.parts.2.2.1 hpi
  have k3 := q3.notes.1.2.2.1 b hbi
  have k4 := q3.parts.2.1 _ (atQ_mem hpi)
  obtain ⟨ib, hib⟩ : ∃ x, (atB bs b).1 = x := ⟨_, rfl⟩
  obtain ⟨ip, hip⟩ : ∃ x, (atQ ps p).id = x := ⟨_, rfl⟩
  have Y1 := (hcB b hbi).1
  have Y2 := (hcP p hpi).c0
  rw [hib] at k1 Y1; rw [hip] at k2 Y2
  have HK1 := Lib.hid k1; have HK2 := Lib.hid k2
  have HE1 : Hid (FndE (Sc.Val sv bs ps ns ∧ 1 ≤ ib ∧ ib ≤ 1000000) (b : Int) (b : Int) true 0) := Lib.hid (.inr ⟨⟨q3, by rw [← hib]; exact ⟨k3.1, k3.2.1⟩⟩, .inl ⟨by omega, rfl, rfl⟩, rfl⟩)
  have HE2 : Hid (FndE (Sc.Val sv bs ps ns ∧ 1 ≤ ip ∧ ip ≤ 1000000) (p : Int) (p : Int) true 0) := Lib.hid (.inr ⟨⟨q3, by rw [← hip]; exact k4.1⟩, .inl ⟨by omega, rfl, rfl⟩, rfl⟩)
  obtain ⟨rB, hrB⟩ : ∃ r, No.bix bs id = r := ⟨_, rfl⟩
  obtain ⟨rN, hrN⟩ : ∃ r, Sc.nix ns id = r := ⟨_, rfl⟩
  have hrBl : rB < bl := by rw [← hrB]; have := No.bix_lt bs id; omega
  have hrNl : rN < nl := by rw [← hrN]; have := Sc.nix_lt ns id; omega
  have hrBa : 0 ≤ rB → (atB bs rB.toNat).1 = id := fun h => by rw [← hrB] at h ⊢; exact No.bix_at h
  have hrNa : 0 ≤ rN → (atO ns rN.toNat).id = id := fun h => by rw [← hrN] at h ⊢; exact Sc.nix_at h
  have HRB := Lib.hid hrB; have HRN := Lib.hid hrN; have HRBA := Lib.hid hrBa; have HRNA := Lib.hid hrNa; have HRBL := Lib.hid hrBl; have HRNL := Lib.hid hrNl
  have HLEN := Lib.hid (And.intro hbl (And.intro hpl hnl))
  have HCB := Lib.hid hcB; have HBB := Lib.hid hbb
  have hwh1 := hwh.1; have hwh2 := hwh.2
  have HWH := Lib.hid hwh
  clear hbl hpl hnl hb0 hp0 hcB hcP hb hp hbi hpi k1 k2 k3 k4 hib hip q3 hrB hrN hrBa hrNa hrBl hrNl h61 h62 hwh hbb
  go_enter Tryz.func4, Tryz.ntmps4
  go_wp2_with fail
  have B := Below.refl w.heap.size w
  refine (head_any _ (hG.alloc _)).mono ?_; rintro e w1 ⟨rfl, hb⟩
  replace hS := (hS.alloc _).below hb
  have Q := (ScB.new _ (⟨sv, some ⟨bb, ofb, none⟩, bl, bc, some ⟨bp, ofp, none⟩, pl, pc, sN, nl, nc⟩ : SH)).below hb
  replace hG := (hG.alloc _).below hb
  replace B := (B.alloc (by have := B.size; simp <;> omega) _).trans (hb.mono (by have := B.size; simp <;> omega))
  clear hb
  have lQ := Q.lt; have cQ0 := Q.c0; have cQ1 := Q.c1; have cQ2 := Q.c2; have cQ3 := Q.c3
  dsimp only at cQ0 cQ1 cQ2 cQ3
  go_wp2_with fail
  refine (rfew_is (⟨sv, some ⟨bb, ofb, none⟩, bl, bc, some ⟨bp, ofp, none⟩, pl, pc, sN, nl, nc⟩ : SH) true ⟨fun _ => HF.out, fun _ => rfl⟩ _).mono ?_; rintro e w2 ⟨rfl, hb⟩
  replace hS := hS.below hb
  replace Q := Q.below hb
  replace hG := hG.below hb
  replace B := B.trans (hb.mono (by have := B.size; simp <;> omega))
  clear hb lQ cQ0 cQ1 cQ2 cQ3
  have lQ := Q.lt; have cQ0 := Q.c0; have cQ1 := Q.c1; have cQ2 := Q.c2; have cQ3 := Q.c3
  dsimp only at cQ0 cQ1 cQ2 cQ3
  go_wp2_with fail
  refine (rval_is (⟨sv, some ⟨bb, ofb, none⟩, bl, bc, some ⟨bp, ofp, none⟩, pl, pc, sN, nl, nc⟩ : SH) bs ps ns true ⟨fun _ => HV.out, fun _ => rfl⟩ _ hS).mono ?_; rintro e w3 ⟨rfl, hb⟩
  replace hS := hS.below hb
  replace Q := Q.below hb
  replace hG := hG.below hb
  replace B := B.trans (hb.mono (by have := B.size; simp <;> omega))
  clear hb lQ cQ0 cQ1 cQ2 cQ3
  have lQ := Q.lt; have cQ0 := Q.c0; have cQ1 := Q.c1; have cQ2 := Q.c2; have cQ3 := Q.c3
  dsimp only at cQ0 cQ1 cQ2 cQ3
  have hbp1 := hbp; clear hbp1
  have y1 := (B.cell (p := ⟨bb, ofb + b * 4, none⟩) HBB.out).trans Y1
  have y2 := (B.cell (p := ⟨bp, ofp + p * 13, none⟩) hbp).trans (by simpa using Y2)
  clear Y1 Y2
  go_wp2_with fail
  clear lQ cQ0 cQ1 cQ2 cQ3
  have x0 := fun x : Ext w3 => x.cell Q.c0
  have x1 := fun x : Ext w3 => x.cell Q.c1
  have x2 := fun x : Ext w3 => x.cell Q.c2
  have x3 := fun x : Ext w3 => x.cell Q.c3
  dsimp only at x0 x1 x2 x3
  have yy1 := fun x : Ext w3 => x.cell y1
  have yy2 := fun x : Ext w3 => x.cell y2
  have hne := Ext.there w3
  have HSS := Lib.hid hS; have HGG := Lib.hid hG
  refine Ext.region (by kernel_rfl) (by kernel_rfl) ?_
  repeat (go_big_quiet_step (fail))
  refine wpQuiet_nil ?_
  rintro _ ⟨xw, rfl⟩
  have hb := xw.h
  replace hS := hS.below hb
  replace Q := Q.below hb
  replace hG := hG.below hb
  replace y1 := xw.cell y1
  replace y2 := xw.cell y2
  replace B := B.trans (hb.mono B.size)
  clear hb x0 x1 x2 x3 hne HSS HGG yy1 yy2
  generalize xw.w = z4 at *
  clear xw
  go_wp2_with fail
  have x0 := fun x : Ext z4 => x.cell Q.c0
  have x1 := fun x : Ext z4 => x.cell Q.c1
  have x2 := fun x : Ext z4 => x.cell Q.c2
  have x3 := fun x : Ext z4 => x.cell Q.c3
  dsimp only at x0 x1 x2 x3
  have yy1 := fun x : Ext z4 => x.cell y1
  have yy2 := fun x : Ext z4 => x.cell y2
  have hne := Ext.there z4
  have HSS := Lib.hid hS; have HGG := Lib.hid hG
  refine Ext.region (by kernel_rfl) (by kernel_rfl) ?_
  repeat (go_big_quiet_step ((go_at_call 13; exact Ext.call _ (sBar_is (⟨sv, some ⟨bb, ofb, none⟩, bl, bc, some ⟨bp, ofp, none⟩, pl, pc, sN, nl, nc⟩ : SH) bs ps ns ib b b true 0 HK1.out HE1.out HW.out _ (HGG.out.below (Ext.h _)) (HSS.out.below (Ext.h _))))))
  refine wpQuiet_nil ?_
  rintro _ ⟨xw, rfl⟩
  have hb := xw.h
  replace hS := hS.below hb
  replace Q := Q.below hb
  replace hG := hG.below hb
  replace y1 := xw.cell y1
  replace y2 := xw.cell y2
  replace B := B.trans (hb.mono B.size)
  clear hb x0 x1 x2 x3 hne HSS HGG yy1 yy2
  generalize xw.w = z5 at *
  clear xw
  go_wp2_with fail
  have x0 := fun x : Ext z5 => x.cell Q.c0
  have x1 := fun x : Ext z5 => x.cell Q.c1
  have x2 := fun x : Ext z5 => x.cell Q.c2
  have x3 := fun x : Ext z5 => x.cell Q.c3
  dsimp only at x0 x1 x2 x3
  have yy2 := fun x : Ext z5 => x.cell y2
  have hne := Ext.there z5
  have HSS := Lib.hid hS; have HGG := Lib.hid hG
  refine Ext.region (by kernel_rfl) (by kernel_rfl) ?_
  repeat (go_big_quiet_step ((go_at_call 15; exact Ext.call _ (sPart_is (⟨sv, some ⟨bb, ofb, none⟩, bl, bc, some ⟨bp, ofp, none⟩, pl, pc, sN, nl, nc⟩ : SH) bs ps ns ip p p true 0 HK2.out HE2.out HW.out _ (HGG.out.below (Ext.h _)) (HSS.out.below (Ext.h _))))))
  refine wpQuiet_nil ?_
  rintro _ ⟨xw, rfl⟩
  have hb := xw.h
  replace hS := hS.below hb
  replace Q := Q.below hb
  replace hG := hG.below hb
  replace y2 := xw.cell y2
  replace B := B.trans (hb.mono B.size)
  clear hb x0 x1 x2 x3 hne HSS HGG yy2
  generalize xw.w = z6 at *
  clear xw
  clear y1 y2
  have lQ := Q.lt; have cQ0 := Q.c0; have cQ1 := Q.c1; have cQ2 := Q.c2; have cQ3 := Q.c3; dsimp only at cQ0 cQ1 cQ2 cQ3
  by_cases hn0 : nl = 0
  · subst hn0
    have hrn : rN < 0 := by have h1 := HRNL.out; omega
    go_wp2_with fail
    by_cases hi : 1 ≤ id ∧ id ≤ 1000000
    case neg =>
      refine (sNote_is (⟨sv, some ⟨bb, ofb, none⟩, bl, bc, some ⟨bp, ofp, none⟩, pl, pc, sN, 0, nc⟩ : SH) bs ps ns id rN 0 false 1 HRN.out (.inl ⟨fun h => hi h.2, rfl, rfl, rfl⟩) HW.out _ hG hS).mono ?_; rintro e u1 ⟨rfl, hb⟩
      replace hS := hS.below hb; replace Q := Q.below hb; replace hG := hG.below hb; replace B := B.trans (hb.mono B.size)
      clear lQ cQ0 cQ1 cQ2 cQ3; clear hb
      have lQ := Q.lt; have cQ0 := Q.c0; have cQ1 := Q.c1; have cQ2 := Q.c2; have cQ3 := Q.c3; dsimp only at cQ0 cQ1 cQ2 cQ3
      go_wp2_with fail
      refine (sBar_is (⟨sv, some ⟨bb, ofb, none⟩, bl, bc, some ⟨bp, ofp, none⟩, pl, pc, sN, 0, nc⟩ : SH) bs ps ns id rB 0 false 1 HRB.out (.inl ⟨fun h => hi h.2, rfl, rfl, rfl⟩) HW.out _ hG hS).mono ?_; rintro e u2 ⟨rfl, hb⟩
      replace hS := hS.below hb; replace Q := Q.below hb; replace hG := hG.below hb; replace B := B.trans (hb.mono B.size)
      clear lQ cQ0 cQ1 cQ2 cQ3; clear hb
      have lQ := Q.lt; have cQ0 := Q.c0; have cQ1 := Q.c1; have cQ2 := Q.c2; have cQ3 := Q.c3; dsimp only at cQ0 cQ1 cQ2 cQ3
      clear hi
      go_wp2_with fail
      go_ret
      exact ⟨rfl, B⟩
    by_cases hB0 : 0 ≤ rB
    · have hb1 := HRBL.out
      obtain ⟨kB, rfl⟩ : ∃ k : Nat, rB = k := ⟨rB.toNat, by omega⟩
      have hBa := HRBA.out (by omega)
      have YB := (HCB.out kB (by have := HLEN.out.1; omega)).1
      rw [show ((kB : Int)).toNat = kB from rfl] at hBa
      rw [hBa] at YB
      have hblt3 : ¬ (kB : Int) ≥ (bl : Int) := by omega
      have hblt4 : (kB : Int) < (bl : Int) := by omega
      have HI := Lib.hid hi
      clear hi hB0
      have HNN := Lib.hid (show rN < 0 by omega)
      refine (sNote_is (⟨sv, some ⟨bb, ofb, none⟩, bl, bc, some ⟨bp, ofp, none⟩, pl, pc, sN, 0, nc⟩ : SH) bs ps ns id rN 0 false 0 HRN.out (.inr ⟨⟨HV.out, HI.out⟩, .inr ⟨HNN.out, rfl, rfl⟩, rfl⟩) HW.out _ hG hS).mono ?_; rintro e u1 ⟨rfl, hb⟩
      replace hS := hS.below hb; replace Q := Q.below hb; replace hG := hG.below hb; replace B := B.trans (hb.mono B.size)
      clear lQ cQ0 cQ1 cQ2 cQ3; clear hb
      have lQ := Q.lt; have cQ0 := Q.c0; have cQ1 := Q.c1; have cQ2 := Q.c2; have cQ3 := Q.c3; dsimp only at cQ0 cQ1 cQ2 cQ3
      go_wp2_with fail
      refine (sBar_is (⟨sv, some ⟨bb, ofb, none⟩, bl, bc, some ⟨bp, ofp, none⟩, pl, pc, sN, 0, nc⟩ : SH) bs ps ns id kB kB true 0 HRB.out (.inr ⟨⟨HV.out, HI.out⟩, .inl ⟨by omega, rfl, rfl⟩, rfl⟩) HW.out _ hG hS).mono ?_; rintro e u2 ⟨rfl, hb⟩
      replace hS := hS.below hb; replace Q := Q.below hb; replace hG := hG.below hb; replace B := B.trans (hb.mono B.size)
      clear lQ cQ0 cQ1 cQ2 cQ3; clear hb
      have lQ := Q.lt; have cQ0 := Q.c0; have cQ1 := Q.c1; have cQ2 := Q.c2; have cQ3 := Q.c3; dsimp only at cQ0 cQ1 cQ2 cQ3
      have yB := (B.cell (p := ⟨bb, ofb + kB * 4, none⟩) HBB.out).trans YB
      go_wp2_with fail
      go_ret
      exact ⟨rfl, B⟩
    · have HNB := Lib.hid (show rB < 0 by omega)
      have HI := Lib.hid hi
      clear hi hB0
      have HNN := Lib.hid (show rN < 0 by omega)
      refine (sNote_is (⟨sv, some ⟨bb, ofb, none⟩, bl, bc, some ⟨bp, ofp, none⟩, pl, pc, sN, 0, nc⟩ : SH) bs ps ns id rN 0 false 0 HRN.out (.inr ⟨⟨HV.out, HI.out⟩, .inr ⟨HNN.out, rfl, rfl⟩, rfl⟩) HW.out _ hG hS).mono ?_; rintro e u1 ⟨rfl, hb⟩
      replace hS := hS.below hb; replace Q := Q.below hb; replace hG := hG.below hb; replace B := B.trans (hb.mono B.size)
      clear lQ cQ0 cQ1 cQ2 cQ3; clear hb
      have lQ := Q.lt; have cQ0 := Q.c0; have cQ1 := Q.c1; have cQ2 := Q.c2; have cQ3 := Q.c3; dsimp only at cQ0 cQ1 cQ2 cQ3
      go_wp2_with fail
      refine (sBar_is (⟨sv, some ⟨bb, ofb, none⟩, bl, bc, some ⟨bp, ofp, none⟩, pl, pc, sN, 0, nc⟩ : SH) bs ps ns id rB 0 false 0 HRB.out (.inr ⟨⟨HV.out, HI.out⟩, .inr ⟨HNB.out, rfl, rfl⟩, rfl⟩) HW.out _ hG hS).mono ?_; rintro e u2 ⟨rfl, hb⟩
      replace hS := hS.below hb; replace Q := Q.below hb; replace hG := hG.below hb; replace B := B.trans (hb.mono B.size)
      clear lQ cQ0 cQ1 cQ2 cQ3; clear hb
      have lQ := Q.lt; have cQ0 := Q.c0; have cQ1 := Q.c1; have cQ2 := Q.c2; have cQ3 := Q.c3; dsimp only at cQ0 cQ1 cQ2 cQ3
      go_wp2_with fail
      go_ret
      exact ⟨rfl, B⟩
  · have hn1 : (0 : Int) < (nl : Int) := by omega
    have hnl0 : ¬ (nl : Int) = 0 := by omega
    obtain ⟨bn, ofn, hNe, hbn, hcN⟩ := hS.sn (by have := HLEN.out.2.2; omega)
    have hNe : sN = some ⟨bn, ofn, none⟩ := hNe
    subst hNe
    obtain ⟨n, hn⟩ : ∃ n, wh.toNat % nl = n := ⟨_, rfl⟩
    have hnlt : n < nl := by rw [← hn]; exact Nat.mod_lt _ (by omega)
    have hnt : wh.tmod (nl : Int) = (n : Int) := by rw [Int.tmod_eq_emod_of_nonneg HWH.out.1, ← hn, Int.natCast_emod, Int.toNat_of_nonneg HWH.out.1]
    have hnlt2 : (n : Int) < (nl : Int) := by omega
    have hni : n < ns.length := by have := HLEN.out.2.2; omega
    have k5 := Sc.nix_of HV.out.notes.2.2.2 hni
    have k6 := HV.out.notes.2.2.1 _ (atO_mem hni)
    obtain ⟨iN, hiN⟩ : ∃ x, (atO ns n).id = x := ⟨_, rfl⟩
    have y3 := (hcN n hni).c0
    rw [Nat.add_zero] at y3
    rw [hiN] at k5 y3
    have HK5 := Lib.hid k5
    have HE5 : Hid (FndE (Sc.Val sv bs ps ns ∧ 1 ≤ iN ∧ iN ≤ 1000000) (n : Int) (n : Int) true 0) := Lib.hid (.inr ⟨⟨HV.out, by rw [← hiN]; exact ⟨k6.2.2.1, k6.2.2.2.1⟩⟩, .inl ⟨by omega, rfl, rfl⟩, rfl⟩)
    have HCN := Lib.hid (fun k hk => hcN k hk)
    have HBN := Lib.hid hbn
    clear hn hni k5 k6 hiN hcN hn0 hbn hnlt
    go_wp2_with fail
    clear lQ cQ0 cQ1 cQ2 cQ3
    have x0 := fun x : Ext z6 => x.cell Q.c0
    have x1 := fun x : Ext z6 => x.cell Q.c1
    have x2 := fun x : Ext z6 => x.cell Q.c2
    have x3 := fun x : Ext z6 => x.cell Q.c3
    dsimp only at x0 x1 x2 x3
    have yy3 := fun x : Ext z6 => x.cell y3
    have hne := Ext.there z6
    have HSS := Lib.hid hS; have HGG := Lib.hid hG
    refine Ext.region (by kernel_rfl) (by kernel_rfl) ?_
    repeat (go_big_quiet_step ((go_at_call 17; exact Ext.call _ (sNote_is (⟨sv, some ⟨bb, ofb, none⟩, bl, bc, some ⟨bp, ofp, none⟩, pl, pc, some ⟨bn, ofn, none⟩, nl, nc⟩ : SH) bs ps ns iN n n true 0 HK5.out HE5.out HW.out _ (HGG.out.below (Ext.h _)) (HSS.out.below (Ext.h _))))))
    refine wpQuiet_nil ?_
    rintro _ ⟨xw, rfl⟩
    have hb := xw.h
    replace hS := hS.below hb
    replace Q := Q.below hb
    replace hG := hG.below hb
    replace y3 := xw.cell y3
    replace B := B.trans (hb.mono B.size)
    clear hb x0 x1 x2 x3 hne HSS HGG yy3
    generalize xw.w = z7 at *
    clear xw
    clear y3
    have lQ := Q.lt; have cQ0 := Q.c0; have cQ1 := Q.c1; have cQ2 := Q.c2; have cQ3 := Q.c3; dsimp only at cQ0 cQ1 cQ2 cQ3
    go_wp2_with fail
    by_cases hi : 1 ≤ id ∧ id ≤ 1000000
    case neg =>
      refine (sNote_is (⟨sv, some ⟨bb, ofb, none⟩, bl, bc, some ⟨bp, ofp, none⟩, pl, pc, some ⟨bn, ofn, none⟩, nl, nc⟩ : SH) bs ps ns id rN 0 false 1 HRN.out (.inl ⟨fun h => hi h.2, rfl, rfl, rfl⟩) HW.out _ hG hS).mono ?_; rintro e u1 ⟨rfl, hb⟩
      replace hS := hS.below hb; replace Q := Q.below hb; replace hG := hG.below hb; replace B := B.trans (hb.mono B.size)
      clear lQ cQ0 cQ1 cQ2 cQ3; clear hb
      have lQ := Q.lt; have cQ0 := Q.c0; have cQ1 := Q.c1; have cQ2 := Q.c2; have cQ3 := Q.c3; dsimp only at cQ0 cQ1 cQ2 cQ3
      go_wp2_with fail
      refine (sBar_is (⟨sv, some ⟨bb, ofb, none⟩, bl, bc, some ⟨bp, ofp, none⟩, pl, pc, some ⟨bn, ofn, none⟩, nl, nc⟩ : SH) bs ps ns id rB 0 false 1 HRB.out (.inl ⟨fun h => hi h.2, rfl, rfl, rfl⟩) HW.out _ hG hS).mono ?_; rintro e u2 ⟨rfl, hb⟩
      replace hS := hS.below hb; replace Q := Q.below hb; replace hG := hG.below hb; replace B := B.trans (hb.mono B.size)
      clear lQ cQ0 cQ1 cQ2 cQ3; clear hb
      have lQ := Q.lt; have cQ0 := Q.c0; have cQ1 := Q.c1; have cQ2 := Q.c2; have cQ3 := Q.c3; dsimp only at cQ0 cQ1 cQ2 cQ3
      clear hi
      go_wp2_with fail
      go_ret
      exact ⟨rfl, B⟩
    by_cases hB0 : 0 ≤ rB
    · have hb1 := HRBL.out
      obtain ⟨kB, rfl⟩ : ∃ k : Nat, rB = k := ⟨rB.toNat, by omega⟩
      have hBa := HRBA.out (by omega)
      have YB := (HCB.out kB (by have := HLEN.out.1; omega)).1
      rw [show ((kB : Int)).toNat = kB from rfl] at hBa
      rw [hBa] at YB
      have hblt3 : ¬ (kB : Int) ≥ (bl : Int) := by omega
      have hblt4 : (kB : Int) < (bl : Int) := by omega
      have HI := Lib.hid hi
      clear hi hB0
      by_cases hN0 : 0 ≤ rN
      · have hn1 := HRNL.out
        obtain ⟨kN, rfl⟩ : ∃ k : Nat, rN = k := ⟨rN.toNat, by omega⟩
        have hNa := HRNA.out (by omega)
        have HNA := Lib.hid (show (atO ns kN).id = id from hNa)
        clear hNa
        have hnlt3 : ¬ (kN : Int) ≥ (nl : Int) := by omega
        have hnlt4 : (kN : Int) < (nl : Int) := by omega
        refine (sNote_is (⟨sv, some ⟨bb, ofb, none⟩, bl, bc, some ⟨bp, ofp, none⟩, pl, pc, some ⟨bn, ofn, none⟩, nl, nc⟩ : SH) bs ps ns id kN kN true 0 HRN.out (.inr ⟨⟨HV.out, HI.out⟩, .inl ⟨by omega, rfl, rfl⟩, rfl⟩) HW.out _ hG hS).mono ?_; rintro e u1 ⟨rfl, hb⟩
        replace hS := hS.below hb; replace Q := Q.below hb; replace hG := hG.below hb; replace B := B.trans (hb.mono B.size)
        clear lQ cQ0 cQ1 cQ2 cQ3; clear hb
        have lQ := Q.lt; have cQ0 := Q.c0; have cQ1 := Q.c1; have cQ2 := Q.c2; have cQ3 := Q.c3; dsimp only at cQ0 cQ1 cQ2 cQ3
        go_wp2_with fail
        refine (sBar_is (⟨sv, some ⟨bb, ofb, none⟩, bl, bc, some ⟨bp, ofp, none⟩, pl, pc, some ⟨bn, ofn, none⟩, nl, nc⟩ : SH) bs ps ns id kB kB true 0 HRB.out (.inr ⟨⟨HV.out, HI.out⟩, .inl ⟨by omega, rfl, rfl⟩, rfl⟩) HW.out _ hG hS).mono ?_; rintro e u2 ⟨rfl, hb⟩
        replace hS := hS.below hb; replace Q := Q.below hb; replace hG := hG.below hb; replace B := B.trans (hb.mono B.size)
        clear lQ cQ0 cQ1 cQ2 cQ3; clear hb
        have lQ := Q.lt; have cQ0 := Q.c0; have cQ1 := Q.c1; have cQ2 := Q.c2; have cQ3 := Q.c3; dsimp only at cQ0 cQ1 cQ2 cQ3
        obtain ⟨_, _, hNe2, _, hcN2⟩ := hS.sn (by have := HLEN.out.2.2; omega)
        cases hNe2
        have yN := (hcN2 kN (by have := HLEN.out.2.2; omega)).c0
        rw [Nat.add_zero, HNA.out] at yN
        clear hcN2
        have yB := (B.cell (p := ⟨bb, ofb + kB * 4, none⟩) HBB.out).trans YB
        go_wp2_with fail
        go_ret
        exact ⟨rfl, B⟩
      · have HNN := Lib.hid (show rN < 0 by omega)
        refine (sNote_is (⟨sv, some ⟨bb, ofb, none⟩, bl, bc, some ⟨bp, ofp, none⟩, pl, pc, some ⟨bn, ofn, none⟩, nl, nc⟩ : SH) bs ps ns id rN 0 false 0 HRN.out (.inr ⟨⟨HV.out, HI.out⟩, .inr ⟨HNN.out, rfl, rfl⟩, rfl⟩) HW.out _ hG hS).mono ?_; rintro e u1 ⟨rfl, hb⟩
        replace hS := hS.below hb; replace Q := Q.below hb; replace hG := hG.below hb; replace B := B.trans (hb.mono B.size)
        clear lQ cQ0 cQ1 cQ2 cQ3; clear hb
        have lQ := Q.lt; have cQ0 := Q.c0; have cQ1 := Q.c1; have cQ2 := Q.c2; have cQ3 := Q.c3; dsimp only at cQ0 cQ1 cQ2 cQ3
        go_wp2_with fail
        refine (sBar_is (⟨sv, some ⟨bb, ofb, none⟩, bl, bc, some ⟨bp, ofp, none⟩, pl, pc, some ⟨bn, ofn, none⟩, nl, nc⟩ : SH) bs ps ns id kB kB true 0 HRB.out (.inr ⟨⟨HV.out, HI.out⟩, .inl ⟨by omega, rfl, rfl⟩, rfl⟩) HW.out _ hG hS).mono ?_; rintro e u2 ⟨rfl, hb⟩
        replace hS := hS.below hb; replace Q := Q.below hb; replace hG := hG.below hb; replace B := B.trans (hb.mono B.size)
        clear lQ cQ0 cQ1 cQ2 cQ3; clear hb
        have lQ := Q.lt; have cQ0 := Q.c0; have cQ1 := Q.c1; have cQ2 := Q.c2; have cQ3 := Q.c3; dsimp only at cQ0 cQ1 cQ2 cQ3
        have yB := (B.cell (p := ⟨bb, ofb + kB * 4, none⟩) HBB.out).trans YB
        go_wp2_with fail
        go_ret
        exact ⟨rfl, B⟩
    · have HNB := Lib.hid (show rB < 0 by omega)
      have HI := Lib.hid hi
      clear hi hB0
      by_cases hN0 : 0 ≤ rN
      · have hn1 := HRNL.out
        obtain ⟨kN, rfl⟩ : ∃ k : Nat, rN = k := ⟨rN.toNat, by omega⟩
        have hNa := HRNA.out (by omega)
        have HNA := Lib.hid (show (atO ns kN).id = id from hNa)
        clear hNa
        have hnlt3 : ¬ (kN : Int) ≥ (nl : Int) := by omega
        have hnlt4 : (kN : Int) < (nl : Int) := by omega
        refine (sNote_is (⟨sv, some ⟨bb, ofb, none⟩, bl, bc, some ⟨bp, ofp, none⟩, pl, pc, some ⟨bn, ofn, none⟩, nl, nc⟩ : SH) bs ps ns id kN kN true 0 HRN.out (.inr ⟨⟨HV.out, HI.out⟩, .inl ⟨by omega, rfl, rfl⟩, rfl⟩) HW.out _ hG hS).mono ?_; rintro e u1 ⟨rfl, hb⟩
        replace hS := hS.below hb; replace Q := Q.below hb; replace hG := hG.below hb; replace B := B.trans (hb.mono B.size)
        clear lQ cQ0 cQ1 cQ2 cQ3; clear hb
        have lQ := Q.lt; have cQ0 := Q.c0; have cQ1 := Q.c1; have cQ2 := Q.c2; have cQ3 := Q.c3; dsimp only at cQ0 cQ1 cQ2 cQ3
        go_wp2_with fail
        refine (sBar_is (⟨sv, some ⟨bb, ofb, none⟩, bl, bc, some ⟨bp, ofp, none⟩, pl, pc, some ⟨bn, ofn, none⟩, nl, nc⟩ : SH) bs ps ns id rB 0 false 0 HRB.out (.inr ⟨⟨HV.out, HI.out⟩, .inr ⟨HNB.out, rfl, rfl⟩, rfl⟩) HW.out _ hG hS).mono ?_; rintro e u2 ⟨rfl, hb⟩
        replace hS := hS.below hb; replace Q := Q.below hb; replace hG := hG.below hb; replace B := B.trans (hb.mono B.size)
        clear lQ cQ0 cQ1 cQ2 cQ3; clear hb
        have lQ := Q.lt; have cQ0 := Q.c0; have cQ1 := Q.c1; have cQ2 := Q.c2; have cQ3 := Q.c3; dsimp only at cQ0 cQ1 cQ2 cQ3
        obtain ⟨_, _, hNe2, _, hcN2⟩ := hS.sn (by have := HLEN.out.2.2; omega)
        cases hNe2
        have yN := (hcN2 kN (by have := HLEN.out.2.2; omega)).c0
        rw [Nat.add_zero, HNA.out] at yN
        clear hcN2
        go_wp2_with fail
        go_ret
        exact ⟨rfl, B⟩
      · have HNN := Lib.hid (show rN < 0 by omega)
        refine (sNote_is (⟨sv, some ⟨bb, ofb, none⟩, bl, bc, some ⟨bp, ofp, none⟩, pl, pc, some ⟨bn, ofn, none⟩, nl, nc⟩ : SH) bs ps ns id rN 0 false 0 HRN.out (.inr ⟨⟨HV.out, HI.out⟩, .inr ⟨HNN.out, rfl, rfl⟩, rfl⟩) HW.out _ hG hS).mono ?_; rintro e u1 ⟨rfl, hb⟩
        replace hS := hS.below hb; replace Q := Q.below hb; replace hG := hG.below hb; replace B := B.trans (hb.mono B.size)
        clear lQ cQ0 cQ1 cQ2 cQ3; clear hb
        have lQ := Q.lt; have cQ0 := Q.c0; have cQ1 := Q.c1; have cQ2 := Q.c2; have cQ3 := Q.c3; dsimp only at cQ0 cQ1 cQ2 cQ3
        go_wp2_with fail
        refine (sBar_is (⟨sv, some ⟨bb, ofb, none⟩, bl, bc, some ⟨bp, ofp, none⟩, pl, pc, some ⟨bn, ofn, none⟩, nl, nc⟩ : SH) bs ps ns id rB 0 false 0 HRB.out (.inr ⟨⟨HV.out, HI.out⟩, .inr ⟨HNB.out, rfl, rfl⟩, rfl⟩) HW.out _ hG hS).mono ?_; rintro e u2 ⟨rfl, hb⟩
        replace hS := hS.below hb; replace Q := Q.below hb; replace hG := hG.below hb; replace B := B.trans (hb.mono B.size)
        clear lQ cQ0 cQ1 cQ2 cQ3; clear hb
        have lQ := Q.lt; have cQ0 := Q.c0; have cQ1 := Q.c1; have cQ2 := Q.c2; have cQ3 := Q.c3; dsimp only at cQ0 cQ1 cQ2 cQ3
        go_wp2_with fail
        go_ret
        exact ⟨rfl, B⟩
end Go.Proofs.YtbbjifhelbeniaaGreatDoor
