import Derived.Test.YtbbjifhelbeniaaGreatDoorGV
/- ScorePlays, call by call. -/
namespace Go.Proofs.YtbbjifhelbeniaaGreatDoor
open Go.RowKit

set_option maxRecDepth 100000 in
set_option maxHeartbeats 3200000 in
theorem scorePlays_walk (s : SH) (bs : List Mt.B) (ps : List Sc.Pt) (ns : List No.Nt) (hwf : WfS bs ps ns) (w : World) (hG : Glob w) (hS : SlS w s bs ps ns) :
    Calls Tryz.prog 5 #[.agg #[.int .i64 s.v, .slice s.B s.bl s.bc, .slice s.P s.pl s.pc, .slice s.N s.nl s.nc]] w fun e w' => e = .returned (.bool true) ∧ Below w.heap.size w w' := by
  have HW := Lib.hid hwf
  clear hwf
  by_cases q1 : s.bl ≤ 60 ∧ s.pl ≤ 61 ∧ s.nl ≤ 60
  case neg =>
    have HF := Lib.hid q1
    clear q1
    go_enter Tryz.func5, Tryz.ntmps5
    go_wp2_with fail
    have B := Below.refl w.heap.size w
    refine (head_any _ (hG.alloc _)).mono ?_; rintro e w1 ⟨rfl, hb⟩
    replace hS := (hS.alloc _).below hb
    have Q := (ScB.new _ s).below hb
    replace hG := (hG.alloc _).below hb
    replace B := (B.alloc (by have := B.size; simp <;> omega) _).trans (hb.mono (by have := B.size; simp <;> omega))
    clear hb
    have lQ := Q.lt; have cQ0 := Q.c0; have cQ1 := Q.c1; have cQ2 := Q.c2; have cQ3 := Q.c3
    go_wp2_with fail
    refine (rfew_is s false ⟨(fun h => by cases h), fun h => absurd h HF.out⟩ _).mono ?_; rintro e w2 ⟨rfl, hb⟩
    replace hS := hS.below hb
    replace Q := Q.below hb
    replace hG := hG.below hb
    replace B := B.trans (hb.mono (by have := B.size; simp <;> omega))
    clear hb lQ cQ0 cQ1 cQ2 cQ3
    have lQ := Q.lt; have cQ0 := Q.c0; have cQ1 := Q.c1; have cQ2 := Q.c2; have cQ3 := Q.c3
    go_wp2_with fail
    go_ret
    exact ⟨rfl, B⟩
  have HF := Lib.hid q1
  by_cases q3 : Sc.Val s.v bs ps ns
  case neg =>
    have HV := Lib.hid q3
    clear q1 q3
    go_enter Tryz.func5, Tryz.ntmps5
    go_wp2_with fail
    have B := Below.refl w.heap.size w
    refine (head_any _ (hG.alloc _)).mono ?_; rintro e w1 ⟨rfl, hb⟩
    replace hS := (hS.alloc _).below hb
    have Q := (ScB.new _ s).below hb
    replace hG := (hG.alloc _).below hb
    replace B := (B.alloc (by have := B.size; simp <;> omega) _).trans (hb.mono (by have := B.size; simp <;> omega))
    clear hb
    have lQ := Q.lt; have cQ0 := Q.c0; have cQ1 := Q.c1; have cQ2 := Q.c2; have cQ3 := Q.c3
    go_wp2_with fail
    refine (rfew_is s true ⟨fun _ => HF.out, fun _ => rfl⟩ _).mono ?_; rintro e w2 ⟨rfl, hb⟩
    replace hS := hS.below hb
    replace Q := Q.below hb
    replace hG := hG.below hb
    replace B := B.trans (hb.mono (by have := B.size; simp <;> omega))
    clear hb lQ cQ0 cQ1 cQ2 cQ3
    have lQ := Q.lt; have cQ0 := Q.c0; have cQ1 := Q.c1; have cQ2 := Q.c2; have cQ3 := Q.c3
    go_wp2_with fail
    refine (rval_is s bs ps ns false ⟨(fun h => by cases h), fun h => absurd h HV.out⟩ _ hS).mono ?_; rintro e w3 ⟨rfl, hb⟩
    replace hS := hS.below hb
    replace Q := Q.below hb
    replace hG := hG.below hb
    replace B := B.trans (hb.mono (by have := B.size; simp <;> omega))
    clear hb lQ cQ0 cQ1 cQ2 cQ3
    have lQ := Q.lt; have cQ0 := Q.c0; have cQ1 := Q.c1; have cQ2 := Q.c2; have cQ3 := Q.c3
    go_wp2_with fail
    go_ret
    exact ⟨rfl, B⟩
  have HV := Lib.hid q3
  have HF := Lib.hid q1
  obtain ⟨h61, h62, h63⟩ := q1
  have hbl := hS.bl; have hpl := hS.pl; have hnl := hS.nl
  have hp0 : 0 < ps.length := q3.parts.1.1
  obtain ⟨bp, ofp, hPe, hbp, hcP⟩ := hS.sp hp0
  obtain ⟨sv, sB, bl, bc, sP, pl, pc, sN, nl, nc⟩ := s
  dsimp only at hbl hpl hnl hPe HF HV h61 h62 h63 q3 ⊢
  subst hPe
  have HLEN := Lib.hid (And.intro hbl (And.intro hpl hnl))
  have HCNT : Hid (Sc.cnt ps ns = nl) := Lib.hid (by rw [← hnl]; exact q3.cnt)
  have hn60 : (nl : Int) ≤ 60 := by omega
  have hp61 : (pl : Int) ≤ 61 := by omega
  clear hbl hpl hnl hp0 hcP hbp q3 h61 h62 h63
  go_enter Tryz.func5, Tryz.ntmps5
  go_wp2_with fail
  have B := Below.refl w.heap.size w
  refine (head_any _ (hG.alloc _)).mono ?_; rintro e w1 ⟨rfl, hb⟩
  replace hS := (hS.alloc _).below hb
  have Q := (ScB.new _ (⟨sv, sB, bl, bc, some ⟨bp, ofp, none⟩, pl, pc, sN, nl, nc⟩ : SH)).below hb
  replace hG := (hG.alloc _).below hb
  replace B := (B.alloc (by have := B.size; simp <;> omega) _).trans (hb.mono (by have := B.size; simp <;> omega))
  clear hb
  have lQ := Q.lt; have cQ0 := Q.c0; have cQ1 := Q.c1; have cQ2 := Q.c2; have cQ3 := Q.c3
  dsimp only at cQ0 cQ1 cQ2 cQ3
  go_wp2_with fail
  refine (rfew_is (⟨sv, sB, bl, bc, some ⟨bp, ofp, none⟩, pl, pc, sN, nl, nc⟩ : SH) true ⟨fun _ => HF.out, fun _ => rfl⟩ _).mono ?_; rintro e w2 ⟨rfl, hb⟩
  replace hS := hS.below hb
  replace Q := Q.below hb
  replace hG := hG.below hb
  replace B := B.trans (hb.mono (by have := B.size; simp <;> omega))
  clear hb lQ cQ0 cQ1 cQ2 cQ3
  have lQ := Q.lt; have cQ0 := Q.c0; have cQ1 := Q.c1; have cQ2 := Q.c2; have cQ3 := Q.c3
  dsimp only at cQ0 cQ1 cQ2 cQ3
  go_wp2_with fail
  refine (rval_is (⟨sv, sB, bl, bc, some ⟨bp, ofp, none⟩, pl, pc, sN, nl, nc⟩ : SH) bs ps ns true ⟨fun _ => HV.out, fun _ => rfl⟩ _ hS).mono ?_; rintro e w3 ⟨rfl, hb⟩
  replace hS := hS.below hb
  replace Q := Q.below hb
  replace hG := hG.below hb
  replace B := B.trans (hb.mono (by have := B.size; simp <;> omega))
  clear hb lQ cQ0 cQ1 cQ2 cQ3
  have lQ := Q.lt; have cQ0 := Q.c0; have cQ1 := Q.c1; have cQ2 := Q.c2; have cQ3 := Q.c3
  dsimp only at cQ0 cQ1 cQ2 cQ3
  go_wp2_with fail
  clear lQ cQ0 cQ1 cQ2 cQ3
  have HSS := Lib.hid hS; have HGG := Lib.hid hG; have HQB := Lib.hid Q; have HB0 := Lib.hid B
  clear hS hG Q B
  go_loopw [3, 4, 27] (fun s3 s4 s27 wr => ∃ (k c : Nat), k ≤ pl ∧ s3 = .bool true ∧ Sc.cnt (ps.take k) ns = c ∧ s4 = .int .i64 (c : Int) ∧ s27 = .int .i64 (k : Int) ∧ Below w3.heap.size w3 wr) (fun _ _ s27 _ => pl - (intOf s27).toNat)
  case atStart => exact ⟨0, 0, Nat.zero_le _, rfl, rfl, rfl, rfl, Below.refl _ _⟩
  case round =>
    obtain ⟨k, c, hk, rfl, hc, rfl, rfl, hR⟩ := hrel
    have HC := Lib.hid hc
    clear hc
    have QR := HQB.out.below hR
    have q0 := QR.c0; have q1 := QR.c1; have q2 := QR.c2; have q3 := QR.c3; have ql := QR.lt; dsimp only at q0 q1 q2 q3
    by_cases hlt : k < pl
    · have hki : k < ps.length := by have := HLEN.out.2.1; omega
      obtain ⟨_, _, hPe, hbp, hcP⟩ := HSS.out.sp (by omega)
      cases hPe
      have X := (hcP k hki).below hR hbp
      obtain ⟨p, hp⟩ : ∃ p, atQ ps k = p := ⟨_, rfl⟩
      rw [hp] at X
      have hpix := Sc.pix_of HV.out.parts.2.2.1 hki
      have hok := HV.out.parts.2.1 _ (atQ_mem hki)
      rw [hp] at hpix hok
      have HPX := Lib.hid hpix; have HOK := Lib.hid hok; have HPE := Lib.hid hp; have HKI := Lib.hid hki
      obtain ⟨L, hL⟩ : ∃ L, Sc.play p ns = L := ⟨_, rfl⟩
      obtain ⟨m, hm⟩ : ∃ m, L.length = m := ⟨_, rfl⟩
      have hm60 : m ≤ 60 := by
        have h1 := Sc.play_len p ns
        rw [hL, hm] at h1
        have h2 := HLEN.out.2.2; have h3 := HF.out.2.2; omega
      have HLP := Lib.hid hL; have HLM := Lib.hid hm; have HM60 := Lib.hid hm60
      have hk1 : (k : Int) < (pl : Int) := by omega
      obtain ⟨c0, c1, c2, c3, c4, c5, c6, c7, c8, c9, c10, c11, c12⟩ := X
      rw [Nat.add_zero] at c0
      clear hcP hki hp hpix hok hL hm hm60
      go_wp2_with fail
      clear c0 c1 c2 c3 c4 c5 c6 c7 c8 c9 c10 c11 c12 q0 q1 q2 q3 ql
      have PV := PtB.new wr p
      have BW := (Below.refl wr.heap.size wr).alloc (Nat.le_refl _) (.cells #[.int .i64 p.id, .int .i64 p.se, .int .i64 p.f, .int .i64 p.oc, .int .i64 p.de, .int .i64 p.ss, .int .i64 p.sm, .int .i64 p.ls, .int .i64 p.la, .int .i64 p.lo, .int .i64 p.hs, .int .i64 p.ha, .int .i64 p.ho] 49)
      have hR1 := hR.alloc hR.size (.cells #[.int .i64 p.id, .int .i64 p.se, .int .i64 p.f, .int .i64 p.oc, .int .i64 p.de, .int .i64 p.ss, .int .i64 p.sm, .int .i64 p.ls, .int .i64 p.la, .int .i64 p.lo, .int .i64 p.hs, .int .i64 p.ha, .int .i64 p.ho] 49)
      refine (splaysL_is (⟨sv, sB, bl, bc, some ⟨bp, ofp, none⟩, pl, pc, sN, nl, nc⟩ : SH) bs ps ns p.id (k : Int) L 0 HPX.out (.inr (.inr ⟨HV.out, by omega, by rw [show ((k : Int)).toNat = k from rfl, HPE.out]; exact HLP.out.symm, rfl⟩)) HW.out _ (HGG.out.below hR1) (HSS.out.below hR1)).mono ?_; rintro e z1 ⟨D, dc, he, L1, hb⟩
      rw [HLM.out] at he
      subst he
      replace PV := PV.below hb
      replace hR1 := hR1.trans (hb.mono hR1.size)
      replace QR := HQB.out.below hR1
      clear hb BW hR
      have q0 := QR.c0; have q1 := QR.c1; have q2 := QR.c2; have q3 := QR.c3; have ql := QR.lt; dsimp only at q0 q1 q2 q3
      go_wp2_with fail
      clear q0 q1 q2 q3 ql
      have HL1 := Lib.hid L1; have HPV := Lib.hid PV; have HR1 := Lib.hid hR1
      clear L1 PV hR1 QR
      go_loopw [3, 9, 43] (fun s3 s9 s43 wr => ∃ (i c2 : Nat), i ≤ nl ∧ s3 = .bool true ∧ (Sc.play p (ns.take i)).length = c2 ∧ c2 ≤ i ∧ s9 = .int .i64 (c2 : Int) ∧ s43 = .int .i64 (i : Int) ∧ Below z1.heap.size z1 wr) (fun _ _ s43 _ => nl - (intOf s43).toNat)
      case atStart => exact ⟨0, 0, Nat.zero_le _, rfl, rfl, Nat.le_refl _, rfl, rfl, Below.refl _ _⟩
      case round =>
        obtain ⟨i, c2, hi, rfl, hc2, hc2i, rfl, rfl, hI⟩ := hrel
        have HC2 := Lib.hid hc2
        clear hc2
        have hR2 := HR1.out.trans (hI.mono HR1.out.size)
        have QR := HQB.out.below hR2
        have PV := HPV.out.below hI
        have q0 := QR.c0; have q1 := QR.c1; have q2 := QR.c2; have q3 := QR.c3; have ql := QR.lt; dsimp only at q0 q1 q2 q3
        by_cases hin : i < nl
        · have hii : i < ns.length := by have := HLEN.out.2.2; omega
          obtain ⟨bn, ofn, hNe, hbn, hcN⟩ := HSS.out.sn (by omega)
          have hNe : sN = some ⟨bn, ofn, none⟩ := hNe
          subst hNe
          have X := (hcN i hii).below hR2 hbn
          obtain ⟨n, hn⟩ : ∃ n, atO ns i = n := ⟨_, rfl⟩
          rw [hn] at X
          have hno := HV.out.notes.2.2.1 n (by rw [← hn]; exact atO_mem hii)
          have hstep := Sc.play_take (p := p) hii
          have hat := fun h => Sc.play_at (p := p) hii h
          rw [hn] at hstep hat
          have HST := Lib.hid hstep; have HAT := Lib.hid hat; have HNO := Lib.hid hno
          obtain ⟨c0, c1, c2', c3, c4, c5, c6, c7, c8, c9, c10, c11⟩ := X
          rw [Nat.add_zero] at c0
          have hi1 : (i : Int) < (nl : Int) := by omega
          have hc260 : c2 ≤ 60 := by have := HF.out.2.2; omega
          have NV := NtB.new wr n
          have PN := PV.alloc (.cells #[.int .i64 n.id, .int .i64 n.pa, .int .i64 n.ba, .int .i64 n.vo, .int .i64 n.os, .int .i64 n.sn, .int .i64 n.sd, .int .i64 n.ln, .int .i64 n.ld, .int .i64 n.st, .int .i64 n.al, .int .i64 n.oc] 51)
          have BW := (Below.refl wr.heap.size wr).alloc (Nat.le_refl _) (.cells #[.int .i64 n.id, .int .i64 n.pa, .int .i64 n.ba, .int .i64 n.vo, .int .i64 n.os, .int .i64 n.sn, .int .i64 n.sd, .int .i64 n.ln, .int .i64 n.ld, .int .i64 n.st, .int .i64 n.al, .int .i64 n.oc] 51)
          obtain ⟨W1, hW1⟩ : ∃ W1, wr.alloc (.cells #[.int .i64 n.id, .int .i64 n.pa, .int .i64 n.ba, .int .i64 n.vo, .int .i64 n.os, .int .i64 n.sn, .int .i64 n.sd, .int .i64 n.ln, .int .i64 n.ld, .int .i64 n.st, .int .i64 n.al, .int .i64 n.oc] 51) = W1 := ⟨_, rfl⟩
          rw [hW1] at NV PN BW
          have xn := fun y : Ext W1 => y.cell NV.c1
          have xp0 := fun y : Ext W1 => y.cell PN.c0; have xp1 := fun y : Ext W1 => y.cell PN.c1; have xp2 := fun y : Ext W1 => y.cell PN.c2; have xp3 := fun y : Ext W1 => y.cell PN.c3; have xp4 := fun y : Ext W1 => y.cell PN.c4; have xp5 := fun y : Ext W1 => y.cell PN.c5; have xp6 := fun y : Ext W1 => y.cell PN.c6; have xp7 := fun y : Ext W1 => y.cell PN.c7; have xp8 := fun y : Ext W1 => y.cell PN.c8; have xp9 := fun y : Ext W1 => y.cell PN.c9; have xp10 := fun y : Ext W1 => y.cell PN.c10; have xp11 := fun y : Ext W1 => y.cell PN.c11; have xp12 := fun y : Ext W1 => y.cell PN.c12
          have hne := Ext.there W1
          clear hcN hii hn hno hstep hat q0 q1 q2 q3 ql
          go_wp2_with fail
          (try simp only [hW1])
          clear c0 c1 c2' c3 c4 c5 c6 c7 c8 c9 c10 c11
          refine Ext.region (by kernel_rfl) (by kernel_rfl) ?_
          repeat (go_big_quiet_step ((go_at_call 25; exact Ext.call _ (rsource_is p _))))
          refine wpQuiet_nil ?_
          rintro _ ⟨xw, rfl⟩
          have hb := xw.h
          replace NV := NV.below hb; replace PN := PN.below hb; replace BW := BW.trans (hb.mono BW.size)
          clear hb xn xp0 xp1 xp2 xp3 xp4 xp5 xp6 xp7 xp8 xp9 xp10 xp11 xp12 hne hW1
          generalize xw.w = z2 at *
          clear xw W1
          by_cases hs : n.pa = Sc.src p
          case neg =>
            have hbe : (n.pa != Sc.src p) = true := by simpa using hs
            have hst := HST.out
            rw [if_neg hs, List.append_nil] at hst
            have HS2 := Lib.hid hst
            clear hs hst
            go_wp2_with fail
            go_roundw
            case rel => exact ⟨i + 1, c2, by omega, rfl, by rw [HS2.out]; exact HC2.out, by omega, rfl, by simp, hI.trans (BW.mono hI.size)⟩
            case measure => simp [intOf]; omega
          have hbe : (n.pa != Sc.src p) = false := by simpa using hs
          have hst := HST.out
          rw [if_pos hs] at hst
          obtain ⟨hp1, hp2⟩ := HAT.out hs
          rw [HLP.out, HC2.out] at hp1 hp2
          rw [HLM.out] at hp1
          have HS2 := Lib.hid hst; have HP2 := Lib.hid hp2; have HSS2 := Lib.hid hs
          have hkl : ¬ (c2 : Int) ≥ (m : Int) := by omega
          have hkl2 : (c2 : Int) < (m : Int) := by omega
          clear hs hst hp2
          obtain ⟨bd, ofd, rfl, hbd, hcD⟩ := HL1.out (by rw [HLM.out]; omega)
          have hzI := hI.trans (BW.mono hI.size)
          have Y := (hcD c2 (by rw [HLM.out]; exact hp1)).below hzI hbd
          rw [HP2.out] at Y
          obtain ⟨y0, y1, y2, y3, y4, y5, y6, y7, y8, y9, y10, y11⟩ := Y
          rw [Nat.add_zero] at y0
          unfold Sc.asP at y0 y1 y2 y3 y4 y5 y6 y7 y8 y9 y10 y11
          dsimp only at y0 y1 y2 y3 y4 y5 y6 y7 y8 y9 y10 y11
          clear hcD
          go_wp2_with fail
          clear y0 y1 y2 y3 y4 y5 y6 y7 y8 y9 y10 y11
          have MV := NtF.new z2 (⟨n.id, p.id, n.ba, n.vo, n.os, n.sn, n.sd, n.ln, n.ld, n.st, n.al, n.oc + p.oc⟩ : No.Nt)
          dsimp only at MV
          have hvl := NV.lt
          replace NV := NV.alloc (.cells #[.int .i64 n.id, .int .i64 p.id, .int .i64 n.ba, .int .i64 n.vo, .int .i64 n.os, .int .i64 n.sn, .int .i64 n.sd, .int .i64 n.ln, .int .i64 n.ld, .int .i64 n.st, .int .i64 n.al, .int .i64 (n.oc + p.oc)] 51); replace PN := PN.alloc (.cells #[.int .i64 n.id, .int .i64 p.id, .int .i64 n.ba, .int .i64 n.vo, .int .i64 n.os, .int .i64 n.sn, .int .i64 n.sd, .int .i64 n.ln, .int .i64 n.ld, .int .i64 n.st, .int .i64 n.al, .int .i64 (n.oc + p.oc)] 51); replace BW := BW.alloc BW.size (.cells #[.int .i64 n.id, .int .i64 p.id, .int .i64 n.ba, .int .i64 n.vo, .int .i64 n.os, .int .i64 n.sn, .int .i64 n.sd, .int .i64 n.ln, .int .i64 n.ld, .int .i64 n.st, .int .i64 n.al, .int .i64 (n.oc + p.oc)] 51)
          have hvm : wr.heap.size ≤ z2.heap.size := by omega
          have hvn : ¬ wr.heap.size = z2.heap.size := by omega
          obtain ⟨z3, hz3⟩ : ∃ z3, z2.alloc (.cells #[.int .i64 n.id, .int .i64 p.id, .int .i64 n.ba, .int .i64 n.vo, .int .i64 n.os, .int .i64 n.sn, .int .i64 n.sd, .int .i64 n.ln, .int .i64 n.ld, .int .i64 n.st, .int .i64 n.al, .int .i64 (n.oc + p.oc)] 51) = z3 := ⟨_, rfl⟩
          rw [hz3] at MV NV PN BW
          (try simp only [hz3])
          obtain ⟨vm, hvmE⟩ : ∃ vm, z2.heap.size = vm := ⟨_, rfl⟩
          rw [hvmE] at MV hvm hvn
          simp only [hvmE]
          obtain ⟨vn, hvnE⟩ : ∃ vn, wr.heap.size = vn := ⟨_, rfl⟩
          have HVN := Lib.hid hvnE
          rw [hvnE] at NV hvm hvn
          simp only [hvnE]
          have HVM := Lib.hid hvm; have HVD := Lib.hid hvn
          obtain ⟨N1, hN1⟩ : ∃ x, Sc.num n.st n.al (n.oc + p.oc) = x := ⟨_, rfl⟩
          obtain ⟨N2, hN2⟩ : ∃ x, Sc.num n.st n.al n.oc = x := ⟨_, rfl⟩
          have hpo : -2 ≤ p.oc ∧ p.oc ≤ 2 := by
            have h := HOK.out.2.2.2.1
            unfold Sc.dbl at h
            split at h <;> omega
          have hiN := HNO.out.2.1
          unfold No.isN at hiN
          have HP1 : Hid (Sc.pv n.st n.al (n.oc + p.oc)) := Lib.hid (by unfold Sc.pv; omega)
          have HP2' : Hid (Sc.pv n.st n.al n.oc) := Lib.hid (by unfold Sc.pv; omega)
          have hb1 := Sc.num_bd HP1.out
          have hb2 := Sc.num_bd HP2'.out
          rw [hN1] at hb1
          rw [hN2] at hb2
          have hsub : (N1 - N2 == 12 * p.oc) = true := by
            rw [← hN1, ← hN2]
            unfold Sc.num
            simp
            omega
          obtain ⟨hb1a, hb1b⟩ := hb1
          obtain ⟨hb2a, hb2b⟩ := hb2
          obtain ⟨hpo1, hpo2⟩ := hpo
          have HN1 := Lib.hid hN1; have HN2 := Lib.hid hN2
          have xm9 := fun y : Ext z3 => y.cell MV.at_.c9; have xm10 := fun y : Ext z3 => y.cell MV.at_.c10; have xm11 := fun y : Ext z3 => y.cell MV.at_.c11
          have xn9 := fun y : Ext z3 => y.cell NV.c9; have xn10 := fun y : Ext z3 => y.cell NV.c10; have xn11 := fun y : Ext z3 => y.cell NV.c11
          have xp3 := fun y : Ext z3 => y.cell PN.c3
          dsimp only at xm9 xm10 xm11
          have hne := Ext.there z3
          clear hz3 hvmE hvnE hN1 hN2 hiN hvm hvn hvl
          refine Ext.region (by kernel_rfl) (by kernel_rfl) ?_
          iterate 3 (go_big_quiet_step ((go_at_call 26; exact Ext.call _ (rsoundN_is n.st n.al (n.oc + p.oc) N1 HN1.out HP1.out _))))
          iterate 3 (go_big_quiet_step ((go_at_call 26; exact Ext.call _ (rsoundN_is n.st n.al n.oc N2 HN2.out HP2'.out _))))
          repeat (go_big_quiet_step (fail))
          refine wpQuiet_nil ?_
          rintro _ ⟨xw, rfl⟩
          have hb := xw.h
          replace MV := MV.below hb; replace NV := NV.below hb; replace PN := PN.below hb; replace BW := BW.trans (hb.mono BW.size)
          clear hb xm9 xm10 xm11 xn9 xn10 xn11 xp3 hne hsub
          generalize xw.w = z4 at *
          clear xw
          have m1 := MV.at_.c1; have p0 := PN.c0; dsimp only at m1
          go_wp2_with fail
          clear m1 p0
          have hvm2 : wr.heap.size ≤ vm := by have := HVN.out; have := HVM.out; omega
          have hvnm : vn ≠ vm := HVD.out
          have HVM2 := Lib.hid hvm2; have HVNM := Lib.hid hvnm
          have xn9 := fun x : PvW (mvC wr vm vn (⟨n.id, p.id, n.ba, n.vo, n.os, n.sn, n.sd, n.ln, n.ld, n.st, n.al, n.oc + p.oc⟩ : No.Nt) (⟨n.id, p.id, n.ba, n.vo, n.os, n.sn, n.sd, n.ln, n.ld, n.st, n.al, n.oc⟩ : No.Nt) n) => x.h.1.2.c9; have xn10 := fun x : PvW (mvC wr vm vn (⟨n.id, p.id, n.ba, n.vo, n.os, n.sn, n.sd, n.ln, n.ld, n.st, n.al, n.oc + p.oc⟩ : No.Nt) (⟨n.id, p.id, n.ba, n.vo, n.os, n.sn, n.sd, n.ln, n.ld, n.st, n.al, n.oc⟩ : No.Nt) n) => x.h.1.2.c10; have xn11 := fun x : PvW (mvC wr vm vn (⟨n.id, p.id, n.ba, n.vo, n.os, n.sn, n.sd, n.ln, n.ld, n.st, n.al, n.oc + p.oc⟩ : No.Nt) (⟨n.id, p.id, n.ba, n.vo, n.os, n.sn, n.sd, n.ln, n.ld, n.st, n.al, n.oc⟩ : No.Nt) n) => x.h.1.2.c11; have xn1 := fun x : PvW (mvC wr vm vn (⟨n.id, p.id, n.ba, n.vo, n.os, n.sn, n.sd, n.ln, n.ld, n.st, n.al, n.oc + p.oc⟩ : No.Nt) (⟨n.id, p.id, n.ba, n.vo, n.os, n.sn, n.sd, n.ln, n.ld, n.st, n.al, n.oc⟩ : No.Nt) n) => x.h.1.2.c1
          have hne : Nonempty (PvW (mvC wr vm vn (⟨n.id, p.id, n.ba, n.vo, n.os, n.sn, n.sd, n.ln, n.ld, n.st, n.al, n.oc + p.oc⟩ : No.Nt) (⟨n.id, p.id, n.ba, n.vo, n.os, n.sn, n.sd, n.ln, n.ld, n.st, n.al, n.oc⟩ : No.Nt) n)) := PvW.there (w := z4) ⟨⟨BW, NV⟩, MV⟩
          clear hvm2 hvnm
          refine region_pv (V := fun _ _ => undef) (cs := [5]) (Cv := mvC wr vm vn (⟨n.id, p.id, n.ba, n.vo, n.os, n.sn, n.sd, n.ln, n.ld, n.st, n.al, n.oc + p.oc⟩ : No.Nt) (⟨n.id, p.id, n.ba, n.vo, n.os, n.sn, n.sd, n.ln, n.ld, n.st, n.al, n.oc⟩ : No.Nt) n) 6 (by kernel_rfl) (by kernel_rfl) (by kernel_rfl) ⟨⟨BW.drew, NV.below (Below.refl _ _).drew⟩, MV.below (Below.refl _ _).drew⟩ ?_
          simp only [List.take_succ_cons, List.take_zero, List.drop_succ_cons, List.drop_zero]
          iterate 5 (refine pv_quiet (by decide) rfl rfl ?_; intro K' hK'; go_big_quiet_op; go_big_quiet_on)
          refine pv_stored rfl rfl (fun w' hw' => ?_) ?_
          · obtain ⟨⟨h1, h2⟩, h3⟩ := hw'
            refine ⟨w'.setCells vm 9 [.int .i64 n.st, .int .i64 n.al, .int .i64 n.oc], ?_, ⟨below_setCells HVM2.out _ _ h1, h2.sets_ne HVNM.out _ _⟩, h3.pitch _ _ _⟩
            simp [execOp, Act.eval, Instr.storeAt, Instr.sureAddr, h3.run n.st n.al n.oc, Result.andThen]
          rintro _ ⟨_, _⟩
          simp only [Act.put]
          clear PN BW NV MV
          rintro z5 ⟨⟨BW, NV⟩, MV⟩
          have MV : NtF z5 vm (⟨n.id, p.id, n.ba, n.vo, n.os, n.sn, n.sd, n.ln, n.ld, n.st, n.al, n.oc⟩ : No.Nt) := MV
          clear xn1 xn9 xn10 xn11 hne
          have l1 := MV.at_.lt; have m1 := MV.at_.c1; have f1 := MV.fr 1
          dsimp only at m1
          have M6 : NtF (z5.setCell ⟨vm, 1, none⟩ (.int .i64 n.pa)) vm n := MV.part n.pa
          replace NV : NtB (z5.setCell ⟨vm, 1, none⟩ (.int .i64 n.pa)) vn n := NV.sets_ne HVNM.out 1 [.int .i64 n.pa]
          replace BW := BW.setCell (p := ⟨vm, 1, none⟩) HVM2.out (.int .i64 n.pa)
          obtain ⟨z6, hz6⟩ : ∃ z6, z5.setCell ⟨vm, 1, none⟩ (.int .i64 n.pa) = z6 := ⟨_, rfl⟩
          rw [hz6] at M6 NV BW
          have e0 := M6.at_.c0; have e1 := M6.at_.c1; have e2 := M6.at_.c2; have e3 := M6.at_.c3; have e4 := M6.at_.c4; have e5 := M6.at_.c5; have e6 := M6.at_.c6; have e7 := M6.at_.c7; have e8 := M6.at_.c8; have e9 := M6.at_.c9; have e10 := M6.at_.c10; have e11 := M6.at_.c11
          have d0 := NV.c0; have d1 := NV.c1; have d2 := NV.c2; have d3 := NV.c3; have d4 := NV.c4; have d5 := NV.c5; have d6 := NV.c6; have d7 := NV.c7; have d8 := NV.c8; have d9 := NV.c9; have d10 := NV.c10; have d11 := NV.c11
          have heq := fun W => eqNote n n true ⟨fun _ => rfl, fun _ => rfl⟩ W
          clear MV
          go_wp2_with (first | (simp only [heq]) | fail)
          go_roundw
          case rel => exact ⟨i + 1, c2 + 1, by omega, rfl, by rw [HS2.out, List.length_append, HC2.out]; rfl, by omega, by simp, by simp, hI.trans (BW.mono hI.size)⟩
          case measure => simp [intOf]; omega
        · obtain rfl : i = nl := by omega
          have hall : c2 = m := by
            have h := HC2.out
            rw [show ns.take i = ns by rw [← HLEN.out.2.2]; exact List.take_length, HLP.out, HLM.out] at h
            exact h.symm
          subst hall
          have a2 := PV.c2
          have hcb := Sc.cnt_take HKI.out ns
          rw [HPE.out, HLP.out, HLM.out, HC.out] at hcb
          have hcl := Sc.cnt_le ps (k + 1) ns
          rw [HCNT.out] at hcl
          have HCB := Lib.hid hcb
          by_cases hf : p.f = 0
          · rw [if_pos hf] at hcb
            have hbe : (p.f == 0) = true := by simpa using hf
            have hc60 : (c : Int) ≤ 60 := by omega
            have HHF := Lib.hid hf; have HM60 := Lib.hid (show c2 ≤ 60 by omega); have hm60 : (c2 : Int) ≤ 60 := by omega
            clear hcb hcl hf
            go_wp2_with fail
            go_roundw
            case rel => exact ⟨k + 1, c + c2, by omega, rfl, by have h := HCB.out; rw [if_pos HHF.out] at h; exact h, by simp, by simp, hR2⟩
            case measure => simp [intOf]; omega
          · rw [if_neg hf] at hcb
            have hbe : (p.f == 0) = false := by simpa using hf
            have HHF := Lib.hid hf
            clear hcb hcl hf
            go_wp2_with fail
            go_roundw
            case rel => exact ⟨k + 1, c, by omega, rfl, by have h := HCB.out; rw [if_neg HHF.out] at h; exact h, rfl, by simp, hR2⟩
            case measure => simp [intOf]; omega
    · obtain rfl : k = pl := by omega
      have hcc : c = nl := by
        have h := HC.out
        rw [show ps.take k = ps by rw [← HLEN.out.2.1]; exact List.take_length, HCNT.out] at h
        exact h.symm
      subst hcc
      go_wp2_with fail
      go_ret
      exact ⟨rfl, HB0.out.trans (hR.mono HB0.out.size)⟩
end Go.Proofs.YtbbjifhelbeniaaGreatDoor
